/- Runs, plain data and pairs of days among the arguments. -/
import Derived.Test.YtmbaohjekeiphaaGreatDoorRunP
import Derived.Test.YtmbaohjekeiphaaGreatDoorFrameG
namespace Go.Proofs.YtmbaohjekeiphaaGreatDoor.run9
open Go.ChangeShapes Go.WideShapes Go.ChangeAt Go.RowKit

theorem cells4 : Tryz.prog.cellsOf 26 = 4 := by kernel_rfl
theorem cellsE : Tryz.prog.cellsOf 24 = 2 := by kernel_rfl
theorem cellsZ : Tryz.prog.cellsOf 39 = 2 := by kernel_rfl
theorem cellsI : Tryz.prog.cellsOf 2 = 1 := by kernel_rfl
theorem cells8 : Tryz.prog.cellsOf 22 = 1 := by kernel_rfl
theorem cellsU : Tryz.prog.cellsOf 5 = 1 := by kernel_rfl
set_option maxRecDepth 100000 in
theorem one_kind {H : Type} {enc : TypeId × Value → H} {W : World} {sp : Nat → Bool} {held : Bool} {t : TypeId} {n : Nat} {v : Value} {y : DataW H × List MemPlace} {q : IntKind} (ht : Tryz.prog.underlying t = some (.int q))
    (h : DataW.trod enc Tryz.prog W 0 sp held n t [v] = some y) : ∃ a, v = .int q a ∧ (Lit.int q a).wf = true := by
  obtain ⟨a, hc, _, hw⟩ := DataW.trod_int ht h
  injection hc with hc _
  exact ⟨a, hc, hw⟩
set_option maxRecDepth 100000 in
theorem open_end {H : Type} {enc : TypeId × Value → H} {W : World} {sp : Nat → Bool} {held : Bool} {a b : Value} {n : Nat} {y : DataW H × List MemPlace}
    (h : DataW.trod enc Tryz.prog W 0 sp held n 24 [a, b] = some y) : ∃ i d, a = .int .i8 i ∧ b = .int .i64 d ∧ I8 i ∧ I64 d := by
  obtain ⟨xs, m, _, _, _, hl, hf⟩ := DataW.trod_struct Tryz.underlying24 h
  match xs, hl with
  | [y0, y1], _ =>
    have e0 : (([a, b] : List Value).drop 0).take (Tryz.prog.cellsOf 22) = [a] := by rw [cells8]; rfl
    have h0 : DataW.trod enc Tryz.prog W 0 sp held m 22 [a] = some y0 := by rw [← e0]; exact hf 0 _ rfl
    have e1 : (([a, b] : List Value).drop 1).take (Tryz.prog.cellsOf 2) = [b] := by rw [cellsI]; rfl
    have h1 : DataW.trod enc Tryz.prog W 0 sp held m 2 [b] = some y1 := by rw [← e1]; exact hf 1 _ rfl
    obtain ⟨x0, rfl, g0⟩ := one_kind (v := a) Tryz.underlying22 h0
    obtain ⟨x1, rfl, g1⟩ := one_kind (v := b) Tryz.underlying2 h1
    exact ⟨x0, x1, rfl, rfl, bounds_i8 g0, (bounds_i64 g1).1, (bounds_i64 g1).2⟩
set_option maxRecDepth 100000 in
theorem open_r {H : Type} {enc : TypeId × Value → H} {W : World} {sp : Nat → Bool} {held : Bool} {r : Reach} {b0 : Nat} {v : Value} {d : DataW H} {ps : List MemPlace}
    (hval : Value.okWide Tryz.prog W r b0 26 v) (h : DataW.Trod enc Tryz.prog W 0 sp held 26 v d ps) : ∃ u : Ru, v = .agg #[.int .i8 u.i, .int .i64 u.d, .int .i8 u.j, .int .i64 u.e] ∧ u.In := by
  obtain ⟨cs, rfl, hsz⟩ := okWide_struct Tryz.underlying26 hval
  rw [cells4] at hsz
  obtain ⟨a, b, c, e, rfl⟩ : ∃ a b c e, cs = #[a, b, c, e] := by
    match cs, hsz with
    | ⟨[a, b, c, e]⟩, _ => exact ⟨a, b, c, e, rfl⟩
  obtain ⟨n, h⟩ := h
  obtain ⟨xs, m, _, _, _, hl, hf⟩ := DataW.trod_struct Tryz.underlying26 h
  match xs, hl with
  | [y0, y1], _ =>
    have e0 : (((Value.agg #[a, b, c, e]).cells.toList.drop 0).take (Tryz.prog.cellsOf 24)) = [a, b] := by rw [cellsE]; rfl
    have h0 : DataW.trod enc Tryz.prog W 0 sp held m 24 [a, b] = some y0 := by rw [← e0]; exact hf 0 _ rfl
    have e1 : (((Value.agg #[a, b, c, e]).cells.toList.drop 2).take (Tryz.prog.cellsOf 24)) = [c, e] := by rw [cellsE]; rfl
    have h1 : DataW.trod enc Tryz.prog W 0 sp held m 24 [c, e] = some y1 := by rw [← e1]; exact hf 1 _ rfl
    obtain ⟨i, d, rfl, rfl, g0, g1⟩ := open_end h0
    obtain ⟨j, f, rfl, rfl, g2, g3⟩ := open_end h1
    exact ⟨⟨i, d, j, f⟩, rfl, g0, g1, g2, g3⟩
theorem okWide_array {P : Program} {w : World} {r : Reach} {base : Nat} {v : Value} {t e : TypeId} {n : Nat} (ht : P.underlying t = some (.array n e)) (h : Value.okWide P w r base t v) : ∃ cs, v = .agg cs ∧ cs.size = P.cellsOf t := by
  simp only [Value.okWide, ht] at h
  obtain ⟨cs, h1, h2, _⟩ := h
  exact ⟨cs, h1, h2⟩
def InZ (u : Int × Int) : Prop := I64 u.1 ∧ I64 u.2
set_option maxRecDepth 100000 in
theorem open_z {H : Type} {enc : TypeId × Value → H} {W : World} {sp : Nat → Bool} {held : Bool} {r : Reach} {b0 : Nat} {v : Value} {d : DataW H} {ps : List MemPlace}
    (hval : Value.okWide Tryz.prog W r b0 39 v) (h : DataW.Trod enc Tryz.prog W 0 sp held 39 v d ps) : ∃ u : Int × Int, v = .agg #[.int .i64 u.1, .int .i64 u.2] ∧ InZ u := by
  obtain ⟨cs, rfl, hsz⟩ := okWide_array Tryz.underlying39 hval
  rw [cellsZ] at hsz
  obtain ⟨a, b, rfl⟩ : ∃ a b, cs = #[a, b] := by
    match cs, hsz with
    | ⟨[a, b]⟩, _ => exact ⟨a, b, rfl⟩
  obtain ⟨n, h⟩ := h
  obtain ⟨xs, m, _, _, _, hl, hf⟩ := DataW.trod_array Tryz.underlying39 h
  match xs, hl with
  | [y0, y1], _ =>
    have h0 := hf 0 (by omega)
    have h1 := hf 1 (by omega)
    rw [cellsI] at h0 h1
    obtain ⟨x, rfl, hx⟩ := one_kind (v := a) Tryz.underlying2 h0
    obtain ⟨z, rfl, hz⟩ := one_kind (v := b) Tryz.underlying2 h1
    exact ⟨(x, z), rfl, ⟨(bounds_i64 hx).1, (bounds_i64 hx).2⟩, ⟨(bounds_i64 hz).1, (bounds_i64 hz).2⟩⟩
def InR (u : Int × Int × Int) : Prop := (0 ≤ u.1 ∧ u.1 ≤ 255) ∧ (0 ≤ u.2.1 ∧ u.2.1 ≤ 255)
end Go.Proofs.YtmbaohjekeiphaaGreatDoor.run9
