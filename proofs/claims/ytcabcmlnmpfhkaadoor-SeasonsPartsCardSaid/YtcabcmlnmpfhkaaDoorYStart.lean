/- The table of leap rules, cell for cell, where a row's list has it. -/
import Derived.Test.YtcabcmlnmpfhkaaDoorMonP
import Derived.ProofKit
import Derived.OpenShut
import Derived.LaidMore
import Derived.ChangeSame
import Derived.Stop.Joined
import Derived.Stop.LaidErr
import Derived.Lib.LaidTab
import Derived.MakeChecks
import Derived.Lib.LaidU8
namespace Go.Proofs.YtcabcmlnmpfhkaaDoor
open Go.ChangeShapes Go.WideShapes Go.ChangeAt Go.RowKit Go.Lib

theorem gRules : Tryd.prog.globalNamed "circa/years.leapRules" = some 2 := by kernel_rfl
theorem tRules : (Tryd.prog.globals[2]?).map (·.type) = some 82 := by kernel_rfl
theorem c1R : Tryd.prog.cellsOf 2 = 1 := by kernel_rfl
theorem c2R : Tryd.prog.cellsOf 81 = 2 := by kernel_rfl
theorem c6R : Tryd.prog.cellsOf 82 = 6 := by kernel_rfl
set_option maxRecDepth 100000 in
theorem rule_cells {w : World} {sp : Nat → Bool} {hd : Bool} {fuel : Nat} {cs : List Value} {a b : Int} {p : List MemPlace} {enc : TypeId × Value → Unit}
    (h : DataW.trod enc Tryd.prog w 0 sp hd fuel 81 cs = some (.agg [.lit (.int .i64 a), .lit (.int .i64 b)], p)) : cs = [.int .i64 a, .int .i64 b] := by
  obtain ⟨y0, y1, n, he, hl, h0, h1⟩ := trod_struct2 Tryd.underlying81 h
  rw [c2R] at hl
  obtain ⟨n0, g0, rfl, _⟩ := DataW.trod_int Tryd.underlying2 h0
  obtain ⟨n1, g1, rfl, _⟩ := DataW.trod_int Tryd.underlying2 h1
  simp only [Prod.mk.injEq, DataW.agg.injEq, List.cons.injEq, DataW.lit.injEq, Lit.int.injEq, true_and, and_true] at he
  obtain ⟨⟨rfl, rfl⟩, -⟩ := he
  match cs, hl with
  | [x, y], _ =>
    simp only [c1R] at g0 g1
    simp at g0 g1
    rw [g0, g1]
set_option maxRecDepth 100000 in
theorem rules_cells {w : World} {sp : Nat → Bool} {hd : Bool} {fuel : Nat} {cs : List Value} {p : List MemPlace} {enc : TypeId × Value → Unit}
    (h : DataW.trod enc Tryd.prog w 0 sp hd fuel 82 cs = some (Rows.laid_circa_years_leapRules, p)) : cs = rules.toList := by
  cases fuel with
  | zero => simp [DataW.trod] at h
  | succ fuel =>
    simp only [DataW.trod, Tryd.underlying82, c2R, c6R] at h
    split at h
    · rename_i hl
      obtain ⟨xs, hm, hx⟩ := Option.map_eq_some_iff.1 h
      have hxl : xs.length = 3 := by simpa using Lib.mapM_length hm
      have hxs := congrArg Prod.fst hx
      match xs, hxl with
      | [x0, x1, x2], _ =>
        simp only [Rows.laid_circa_years_leapRules, List.map_cons, List.map_nil, DataW.agg.injEq, List.cons.injEq, and_true] at hxs
        obtain ⟨e0, e1, e2⟩ := hxs
        obtain ⟨b0, hb0, f0⟩ := Lib.mapM_at hm 0 0 rfl
        obtain ⟨b1, hb1, f1⟩ := Lib.mapM_at hm 1 1 rfl
        obtain ⟨b2, hb2, f2⟩ := Lib.mapM_at hm 2 2 rfl
        simp only [List.getElem?_cons_zero, List.getElem?_cons_succ, Option.some.injEq] at hb0 hb1 hb2
        subst hb0 hb1 hb2
        obtain ⟨x0, q0⟩ := x0
        obtain ⟨x1, q1⟩ := x1
        obtain ⟨x2, q2⟩ := x2
        simp only at e0 e1 e2
        subst e0 e1 e2
        have r0 := rule_cells f0
        have r1 := rule_cells f1
        have r2 := rule_cells f2
        match cs, hl with
        | [a, b, c, d, e, f], _ =>
          simp at r0 r1 r2
          simp [rules, r0, r1, r2]
    · cases h

/-- The variable's block, from what the variable reads as. -/
theorem block_of_reads {W : World} {name : String} {d : DataW Unit} {g : Nat} {t : TypeId} {cs0 : Array Value} (hgn : Tryd.prog.globalNamed name = some g) (htn : (Tryd.prog.globals[g]?).map (·.type) = some t)
    (hcs : ∀ {fuel : Nat} {cs : List Value} {p : List MemPlace}, DataW.trod (fun _ => ()) Tryd.prog W 0 (fun _ => true) false fuel t cs = some (d, p) → cs = cs0.toList)
    (h : VarReads Tryd.prog W name d) : ∃ t fr, W.heap[g]? = some (.cells cs0 t fr) := by
  obtain ⟨g', t', cs, fuel, p, hg, ht, hv, hd⟩ := h
  obtain rfl := Option.some.inj (hgn.symm.trans hg)
  obtain rfl := Option.some.inj (htn.symm.trans ht)
  have hc := hcs hd
  unfold World.var? at hv
  simp only [hgn, Option.bind_some] at hv
  split at hv
  · rename_i cs' t' fr' heq
    obtain rfl := Option.some.inj hv
    have he : cs' = cs0 := by rw [← Array.toArray_toList (xs := cs'), hc]
    exact ⟨t', fr', by rw [heq, he]⟩
  · cases hv
theorem startY_of_reads {W : World} (h : VarReads Tryd.prog W "circa/years.leapRules" Rows.laid_circa_years_leapRules) : StartY W :=
  block_of_reads gRules tRules (fun hd => rules_cells hd) h
theorem reads_of_laid {W : World} {l : List (String × DataW Unit)} (hp : (l.all fun x => x.2.handleName?.isNone) = true) (h : laidMetH Tryd.prog l W) {n : String} {d : DataW Unit} (hm : (n, d) ∈ l) : VarReads Tryd.prog W n d :=
  Lib.laidMet.reads (by rw [MakeChecks.laidMetH_plain _ _ _ hp] at h; exact h) hm
end Go.Proofs.YtcabcmlnmpfhkaaDoor
