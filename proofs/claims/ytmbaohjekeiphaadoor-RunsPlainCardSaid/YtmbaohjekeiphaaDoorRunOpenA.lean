/- Runs, plain data and pairs of days among the arguments. -/
import Derived.Test.YtmbaohjekeiphaaDoorRunP
import Derived.Test.YtmbaohjekeiphaaDoorFrameG
namespace Go.Proofs.YtmbaohjekeiphaaDoor.run9
open Go.ChangeShapes Go.WideShapes Go.ChangeAt Go.RowKit

theorem cells4 : Tryd.prog.cellsOf 29 = 4 := by kernel_rfl
theorem cells3 : Tryd.prog.cellsOf 24 = 3 := by kernel_rfl
theorem cellsE : Tryd.prog.cellsOf 27 = 2 := by kernel_rfl
theorem cellsI : Tryd.prog.cellsOf 2 = 1 := by kernel_rfl
theorem cells8 : Tryd.prog.cellsOf 25 = 1 := by kernel_rfl
theorem cellsU : Tryd.prog.cellsOf 5 = 1 := by kernel_rfl
theorem cells16 : Tryd.prog.cellsOf 22 = 1 := by kernel_rfl
set_option maxRecDepth 100000 in
theorem one_kind {H : Type} {enc : TypeId × Value → H} {W : World} {sp : Nat → Bool} {held : Bool} {t : TypeId} {n : Nat} {v : Value} {y : DataW H × List MemPlace} {q : IntKind} (ht : Tryd.prog.underlying t = some (.int q))
    (h : DataW.trod enc Tryd.prog W 0 sp held n t [v] = some y) : ∃ a, v = .int q a ∧ (Lit.int q a).wf = true := by
  obtain ⟨a, hc, _, hw⟩ := DataW.trod_int ht h
  injection hc with hc _
  exact ⟨a, hc, hw⟩
set_option maxRecDepth 100000 in
theorem open_end {H : Type} {enc : TypeId × Value → H} {W : World} {sp : Nat → Bool} {held : Bool} {a b : Value} {n : Nat} {y : DataW H × List MemPlace}
    (h : DataW.trod enc Tryd.prog W 0 sp held n 27 [a, b] = some y) : ∃ i d, a = .int .i8 i ∧ b = .int .i64 d ∧ I8 i ∧ I64 d := by
  obtain ⟨xs, m, _, _, _, hl, hf⟩ := DataW.trod_struct Tryd.underlying27 h
  match xs, hl with
  | [y0, y1], _ =>
    have e0 : (([a, b] : List Value).drop 0).take (Tryd.prog.cellsOf 25) = [a] := by rw [cells8]; rfl
    have h0 : DataW.trod enc Tryd.prog W 0 sp held m 25 [a] = some y0 := by rw [← e0]; exact hf 0 _ rfl
    have e1 : (([a, b] : List Value).drop 1).take (Tryd.prog.cellsOf 2) = [b] := by rw [cellsI]; rfl
    have h1 : DataW.trod enc Tryd.prog W 0 sp held m 2 [b] = some y1 := by rw [← e1]; exact hf 1 _ rfl
    obtain ⟨x0, rfl, g0⟩ := one_kind (v := a) Tryd.underlying25 h0
    obtain ⟨x1, rfl, g1⟩ := one_kind (v := b) Tryd.underlying2 h1
    exact ⟨x0, x1, rfl, rfl, bounds_i8 g0, (bounds_i64 g1).1, (bounds_i64 g1).2⟩
set_option maxRecDepth 100000 in
theorem open_r {H : Type} {enc : TypeId × Value → H} {W : World} {sp : Nat → Bool} {held : Bool} {r : Reach} {b0 : Nat} {v : Value} {d : DataW H} {ps : List MemPlace}
    (hval : Value.okWide Tryd.prog W r b0 29 v) (h : DataW.Trod enc Tryd.prog W 0 sp held 29 v d ps) : ∃ u : Ru, v = .agg #[.int .i8 u.i, .int .i64 u.d, .int .i8 u.j, .int .i64 u.e] ∧ u.In := by
  obtain ⟨cs, rfl, hsz⟩ := okWide_struct Tryd.underlying29 hval
  rw [cells4] at hsz
  obtain ⟨a, b, c, e, rfl⟩ : ∃ a b c e, cs = #[a, b, c, e] := by
    match cs, hsz with
    | ⟨[a, b, c, e]⟩, _ => exact ⟨a, b, c, e, rfl⟩
  obtain ⟨n, h⟩ := h
  obtain ⟨xs, m, _, _, _, hl, hf⟩ := DataW.trod_struct Tryd.underlying29 h
  match xs, hl with
  | [y0, y1], _ =>
    have e0 : (((Value.agg #[a, b, c, e]).cells.toList.drop 0).take (Tryd.prog.cellsOf 27)) = [a, b] := by rw [cellsE]; rfl
    have h0 : DataW.trod enc Tryd.prog W 0 sp held m 27 [a, b] = some y0 := by rw [← e0]; exact hf 0 _ rfl
    have e1 : (((Value.agg #[a, b, c, e]).cells.toList.drop 2).take (Tryd.prog.cellsOf 27)) = [c, e] := by rw [cellsE]; rfl
    have h1 : DataW.trod enc Tryd.prog W 0 sp held m 27 [c, e] = some y1 := by rw [← e1]; exact hf 1 _ rfl
    obtain ⟨i, d, rfl, rfl, g0, g1⟩ := open_end h0
    obtain ⟨j, f, rfl, rfl, g2, g3⟩ := open_end h1
    exact ⟨⟨i, d, j, f⟩, rfl, g0, g1, g2, g3⟩
theorem okWide_array {P : Program} {w : World} {r : Reach} {base : Nat} {v : Value} {t e : TypeId} {n : Nat} (ht : P.underlying t = some (.array n e)) (h : Value.okWide P w r base t v) : ∃ cs, v = .agg cs ∧ cs.size = P.cellsOf t := by
  simp only [Value.okWide, ht] at h
  obtain ⟨cs, h1, h2, _⟩ := h
  exact ⟨cs, h1, h2⟩
def InZ (u : Int × Int) : Prop := I64 u.1 ∧ I64 u.2
def InR (u : Int × Int × Int) : Prop := (0 ≤ u.1 ∧ u.1 ≤ 255) ∧ (0 ≤ u.2.1 ∧ u.2.1 ≤ 255)
set_option maxRecDepth 100000 in
theorem open_p {H : Type} {enc : TypeId × Value → H} {W : World} {sp : Nat → Bool} {held : Bool} {r : Reach} {b0 : Nat} {v : Value} {d : DataW H} {ps : List MemPlace}
    (hval : Value.okWide Tryd.prog W r b0 24 v) (h : DataW.Trod enc Tryd.prog W 0 sp held 24 v d ps) : ∃ u : Int × Int × Int, v = .agg #[.int .u8 u.1, .int .u8 u.2.1, .int .i16 u.2.2] ∧ InR u := by
  obtain ⟨cs, rfl, hsz⟩ := okWide_struct Tryd.underlying24 hval
  rw [cells3] at hsz
  obtain ⟨a, b, c, rfl⟩ : ∃ a b c, cs = #[a, b, c] := by
    match cs, hsz with
    | ⟨[a, b, c]⟩, _ => exact ⟨a, b, c, rfl⟩
  obtain ⟨n, h⟩ := h
  obtain ⟨xs, m, _, _, _, hl, hf⟩ := DataW.trod_struct Tryd.underlying24 h
  match xs, hl with
  | [y0, y1, y2], _ =>
    have e0 : (((Value.agg #[a, b, c]).cells.toList.drop 0).take (Tryd.prog.cellsOf 5)) = [a] := by rw [cellsU]; rfl
    have h0 : DataW.trod enc Tryd.prog W 0 sp held m 5 [a] = some y0 := by rw [← e0]; exact hf 0 _ rfl
    have e1 : (((Value.agg #[a, b, c]).cells.toList.drop 1).take (Tryd.prog.cellsOf 5)) = [b] := by rw [cellsU]; rfl
    have h1 : DataW.trod enc Tryd.prog W 0 sp held m 5 [b] = some y1 := by rw [← e1]; exact hf 1 _ rfl
    have e2 : (((Value.agg #[a, b, c]).cells.toList.drop 2).take (Tryd.prog.cellsOf 22)) = [c] := by rw [cells16]; rfl
    have h2 : DataW.trod enc Tryd.prog W 0 sp held m 22 [c] = some y2 := by rw [← e2]; exact hf 2 _ rfl
    obtain ⟨x0, rfl, g0⟩ := one_kind (v := a) Tryd.underlying5 h0
    obtain ⟨x1, rfl, g1⟩ := one_kind (v := b) Tryd.underlying5 h1
    obtain ⟨x2, rfl, g2⟩ := one_kind (v := c) Tryd.underlying22 h2
    exact ⟨(x0, x1, x2), rfl, bounds_u8 g0, bounds_u8 g1⟩

end Go.Proofs.YtmbaohjekeiphaaDoor.run9
