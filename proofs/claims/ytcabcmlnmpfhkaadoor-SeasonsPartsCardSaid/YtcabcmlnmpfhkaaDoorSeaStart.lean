/- The table of codes, cell for cell, where a row's list has it; from the listed variables to what the walks lean on. -/
import Derived.Test.YtcabcmlnmpfhkaaDoorMonStart
import Derived.Test.YtcabcmlnmpfhkaaDoorSeaP
namespace Go.Proofs.YtcabcmlnmpfhkaaDoor
open Go.ChangeShapes Go.WideShapes Go.ChangeAt Go.RowKit Go.Lib

theorem gParts : Tryd.prog.globalNamed "circa/seasons.parts" = some 0 := by kernel_rfl
theorem tParts : (Tryd.prog.globals[0]?).map (·.type) = some 55 := by kernel_rfl
theorem c1P : Tryd.prog.cellsOf 3 = 1 := by kernel_rfl
theorem c2P : Tryd.prog.cellsOf 54 = 2 := by kernel_rfl
theorem c42P : Tryd.prog.cellsOf 55 = 42 := by kernel_rfl
set_option maxRecDepth 100000 in
theorem part_cells {w : World} {sp : Nat → Bool} {hd : Bool} {fuel : Nat} {cs : List Value} {a b : Int} {d : DataW Unit} {p : List MemPlace} {enc : TypeId × Value → Unit}
    (h : DataW.trod enc Tryd.prog w 0 sp hd fuel 54 cs = some (d, p)) (hdd : d = .agg [.lit (.int .i64 a), .lit (.int .i64 b)]) : cs = [.int .i64 a, .int .i64 b] := by
  subst hdd
  obtain ⟨y0, y1, n, he, hl, h0, h1⟩ := trod_struct2 Tryd.underlying54 h
  rw [c2P] at hl
  obtain ⟨n0, g0, rfl, _⟩ := DataW.trod_int Tryd.underlying3 h0
  obtain ⟨n1, g1, rfl, _⟩ := DataW.trod_int Tryd.underlying3 h1
  simp only [Prod.mk.injEq, DataW.agg.injEq, List.cons.injEq, DataW.lit.injEq, Lit.int.injEq, true_and, and_true] at he
  obtain ⟨⟨rfl, rfl⟩, -⟩ := he
  match cs, hl with
  | [x, y], _ =>
    simp only [c1P] at g0 g1
    simp at g0 g1
    rw [g0, g1]
/-- The rows of the table: first month and number of months. -/
def partR : List (Int × Int) := [(3, 3), (6, 3), (9, 3), (12, 3), (3, 3), (6, 3), (9, 3), (12, 3), (9, 3), (12, 3), (3, 3), (6, 3), (1, 3), (4, 3), (7, 3), (10, 3), (1, 4), (5, 4), (9, 4), (1, 6), (7, 6)]
theorem partR_data : Rows.laid_circa_seasons_parts (H := Unit) = .agg (partR.map fun x => .agg [.lit (.int .i64 x.1), .lit (.int .i64 x.2)]) := by rfl
theorem partR_cells : partsC.toList = partR.flatMap fun x => [.int .i64 x.1, .int .i64 x.2] := by rfl
theorem rows_flat (l : List (Int × Int)) : ∀ cs : List Value, cs.length = l.length * 2 → (∀ i x, l[i]? = some x → (cs.drop (i * 2)).take 2 = [.int .i64 x.1, .int .i64 x.2]) → cs = l.flatMap fun x => [.int .i64 x.1, .int .i64 x.2] := by
  induction l with
  | nil => intro cs hl _; exact List.eq_nil_of_length_eq_zero (by simpa using hl)
  | cons x l ih =>
    intro cs hl h
    match cs, hl with
    | a :: b :: r, hl =>
      have h0 := h 0 x rfl
      simp at h0
      obtain ⟨rfl, rfl⟩ := h0
      have := ih r (by simp at hl; omega) (fun i y hy => by
        have := h (i + 1) y (by simpa using hy)
        rw [show (i + 1) * 2 = i * 2 + 1 + 1 by omega] at this
        simpa using this)
      rw [List.flatMap_cons, ← this]
      rfl
    | [a], hl => simp at hl; omega
set_option maxRecDepth 100000 in
theorem parts_cells {w : World} {sp : Nat → Bool} {hd : Bool} {fuel : Nat} {cs : List Value} {p : List MemPlace} {enc : TypeId × Value → Unit}
    (h : DataW.trod enc Tryd.prog w 0 sp hd fuel 55 cs = some (Rows.laid_circa_seasons_parts, p)) : cs = partsC.toList := by
  cases fuel with
  | zero => simp [DataW.trod] at h
  | succ fuel =>
    simp only [DataW.trod, Tryd.underlying55, c2P, c42P] at h
    split at h
    · rename_i hl
      obtain ⟨xs, hm, hx⟩ := Option.map_eq_some_iff.1 h
      have hxs : xs.map (·.1) = partR.map fun x => .agg [.lit (.int .i64 x.1), .lit (.int .i64 x.2)] := by
        have := congrArg Prod.fst hx
        rw [partR_data] at this
        exact DataW.agg.inj this
      rw [partR_cells]
      refine rows_flat partR cs hl fun i x hi => ?_
      have hi21 : i < 21 := by
        rcases Nat.lt_or_ge i 21 with h' | h'
        · exact h'
        · rw [List.getElem?_eq_none (by simpa [partR] using h')] at hi; cases hi
      obtain ⟨b, hb, f⟩ := Lib.mapM_at hm i i (by simp [hi21])
      have hbx : b.1 = .agg [.lit (.int .i64 x.1), .lit (.int .i64 x.2)] := by
        have h1 : (xs.map (·.1))[i]? = some b.1 := by simp [hb]
        rw [hxs] at h1
        simp [hi] at h1
        exact h1.symm
      exact part_cells (d := b.1) (p := b.2) f hbx
    · cases h
theorem startS_of_reads {W : World} (h : VarReads Tryd.prog W "circa/seasons.parts" Rows.laid_circa_seasons_parts) : StartS W :=
  block_of_reads gParts tParts (fun hd => parts_cells hd) h
theorem start_of_laid {W : World} {l : List (String × DataW Unit)} (hp : (l.all fun x => x.2.handleName?.isNone) = true)
    (h1 : ("circa/years.leapRules", Rows.laid_circa_years_leapRules) ∈ l) (h2 : ("circa/months.lengths", Rows.laid_circa_months_lengths) ∈ l) (h3 : ("circa/seasons.parts", Rows.laid_circa_seasons_parts) ∈ l)
    (h : laidMetH Tryd.prog l W) : Start W := ⟨⟨startY_of_reads (reads_of_laid hp h h1), startM_of_reads (reads_of_laid hp h h2)⟩, startS_of_reads (reads_of_laid hp h h3)⟩
end Go.Proofs.YtcabcmlnmpfhkaaDoor
