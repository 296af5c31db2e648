/- The table of leap rules, cell for cell, where a row's list has it. -/
import Derived.Test.YtiemlpmhhbmfiaaGreatDoorMons
import Derived.ProofKit
import Derived.OpenShut
import Derived.LaidMore
import Derived.ChangeSame
import Derived.Stop.Joined
import Derived.Stop.LaidErr
import Derived.Lib.LaidTab
import Derived.MakeChecks
import Derived.Lib.LaidU8
import Derived.Test.YtiemlpmhhbmfiaaGreatDoorCivP
namespace Go.Proofs.YtiemlpmhhbmfiaaGreatDoor
open Go.ChangeShapes Go.WideShapes Go.ChangeAt Go.RowKit Go.Lib

theorem gRules : Tryz.prog.globalNamed "circa/years.leapRules" = some 1 := by kernel_rfl
theorem tRules : (Tryz.prog.globals[1]?).map (·.type) = some 133 := by kernel_rfl
theorem c1R : Tryz.prog.cellsOf 2 = 1 := by kernel_rfl
theorem c2R : Tryz.prog.cellsOf 132 = 2 := by kernel_rfl
theorem c6R : Tryz.prog.cellsOf 133 = 6 := by kernel_rfl
set_option maxRecDepth 100000 in
theorem rule_cells {w : World} {sp : Nat → Bool} {hd : Bool} {fuel : Nat} {cs : List Value} {a b : Int} {p : List MemPlace} {enc : TypeId × Value → Unit}
    (h : DataW.trod enc Tryz.prog w 0 sp hd fuel 132 cs = some (.agg [.lit (.int .i64 a), .lit (.int .i64 b)], p)) : cs = [.int .i64 a, .int .i64 b] := by
  obtain ⟨y0, y1, n, he, hl, h0, h1⟩ := trod_struct2 Tryz.underlying132 h
  rw [c2R] at hl
  obtain ⟨n0, g0, rfl, _⟩ := DataW.trod_int Tryz.underlying2 h0
  obtain ⟨n1, g1, rfl, _⟩ := DataW.trod_int Tryz.underlying2 h1
  simp only [Prod.mk.injEq, DataW.agg.injEq, List.cons.injEq, DataW.lit.injEq, Lit.int.injEq, true_and, and_true] at he
  obtain ⟨⟨rfl, rfl⟩, -⟩ := he
  match cs, hl with
  | [x, y], _ =>
    simp only [c1R] at g0 g1
    simp at g0 g1
    rw [g0, g1]
set_option maxRecDepth 100000 in
theorem rules_cells {w : World} {sp : Nat → Bool} {hd : Bool} {fuel : Nat} {cs : List Value} {p : List MemPlace} {enc : TypeId × Value → Unit}
    (h : DataW.trod enc Tryz.prog w 0 sp hd fuel 133 cs = some (Rows.laid_circa_years_leapRules, p)) : cs = rules.toList := by
  cases fuel with
  | zero => simp [DataW.trod] at h
  | succ fuel =>
    simp only [DataW.trod, Tryz.underlying133, c2R, c6R] at h
    split at h
    · rename_i hl
      obtain ⟨xs, hm, hx⟩ := Option.map_eq_some_iff.1 h
      have hxl : xs.length = 3 := by simpa using Lib.mapM_length hm
      have hxs := congrArg Prod.fst hx
      match xs, hxl with
      | [x0, x1, x2], _ =>
        simp only [Rows.laid_circa_years_leapRules, List.map_cons, List.map_nil, DataW.agg.injEq, List.cons.injEq, and_true] at hxs
        obtain ⟨e0, e1, e2⟩ := hxs
        obtain ⟨b0, hb0, f0⟩ := Lib.mapM_at hm 0 0 rfl
        obtain ⟨b1, hb1, f1⟩ := Lib.mapM_at hm 1 1 rfl
        obtain ⟨b2, hb2, f2⟩ := Lib.mapM_at hm 2 2 rfl
        simp only [List.getElem?_cons_zero, List.getElem?_cons_succ, Option.some.injEq] at hb0 hb1 hb2
        subst hb0 hb1 hb2
        obtain ⟨x0, q0⟩ := x0
        obtain ⟨x1, q1⟩ := x1
        obtain ⟨x2, q2⟩ := x2
        simp only at e0 e1 e2
        subst e0 e1 e2
        have r0 := rule_cells f0
        have r1 := rule_cells f1
        have r2 := rule_cells f2
        match cs, hl with
        | [a, b, c, d, e, f], _ =>
          simp at r0 r1 r2
          simp [rules, r0, r1, r2]
    · cases h

/-- The variable's block, from what the variable reads as. -/
theorem block_of_reads {W : World} {name : String} {d : DataW Unit} {g : Nat} {t : TypeId} {cs0 : Array Value} (hgn : Tryz.prog.globalNamed name = some g) (htn : (Tryz.prog.globals[g]?).map (·.type) = some t)
    (hcs : ∀ {fuel : Nat} {cs : List Value} {p : List MemPlace}, DataW.trod (fun _ => ()) Tryz.prog W 0 (fun _ => true) false fuel t cs = some (d, p) → cs = cs0.toList)
    (h : VarReads Tryz.prog W name d) : ∃ t fr, W.heap[g]? = some (.cells cs0 t fr) := by
  obtain ⟨g', t', cs, fuel, p, hg, ht, hv, hd⟩ := h
  obtain rfl := Option.some.inj (hgn.symm.trans hg)
  obtain rfl := Option.some.inj (htn.symm.trans ht)
  have hc := hcs hd
  unfold World.var? at hv
  simp only [hgn, Option.bind_some] at hv
  split at hv
  · rename_i cs' t' fr' heq
    obtain rfl := Option.some.inj hv
    have he : cs' = cs0 := by rw [← Array.toArray_toList (xs := cs'), hc]
    exact ⟨t', fr', by rw [heq, he]⟩
  · cases hv
theorem startY_of_reads {W : World} (h : VarReads Tryz.prog W "circa/years.leapRules" Rows.laid_circa_years_leapRules) : StartY W :=
  block_of_reads gRules tRules (fun hd => rules_cells hd) h
theorem reads_of_laid {W : World} {l : List (String × DataW Unit)} (hp : (l.all fun x => x.2.handleName?.isNone) = true) (h : laidMetH Tryz.prog l W) {n : String} {d : DataW Unit} (hm : (n, d) ∈ l) : VarReads Tryz.prog W n d :=
  Lib.laidMet.reads (by rw [MakeChecks.laidMetH_plain _ _ _ hp] at h; exact h) hm
end Go.Proofs.YtiemlpmhhbmfiaaGreatDoor
/- The table of the lengths of months, cell for cell, where a row's list has it; what the start has laid. -/
namespace Go.Proofs.YtiemlpmhhbmfiaaGreatDoor
open Go.ChangeShapes Go.WideShapes Go.ChangeAt Go.RowKit Go.Lib

theorem gLens : Tryz.prog.globalNamed "circa/months.lengths" = some 0 := by kernel_rfl
theorem tLens : (Tryz.prog.globals[0]?).map (·.type) = some 114 := by kernel_rfl
theorem c1L : Tryz.prog.cellsOf 3 = 1 := by kernel_rfl
theorem c12L : Tryz.prog.cellsOf 114 = 12 := by kernel_rfl
theorem startM_of_reads {W : World} (h : VarReads Tryz.prog W "circa/months.lengths" Rows.laid_circa_months_lengths) : StartM W :=
  block_of_reads gLens tLens (cs0 := lens) (fun hd => Lib.cells_of_tab (k := .i64) (zs := [31, 28, 31, 30, 31, 30, 31, 31, 30, 31, 30, 31]) Tryz.underlying114 Tryz.underlying3 c1L c12L hd) h
end Go.Proofs.YtiemlpmhhbmfiaaGreatDoor
/- From the listed variables to what the walks lean on. -/
namespace Go.Proofs.YtiemlpmhhbmfiaaGreatDoor
open Go.ChangeShapes Go.WideShapes Go.ChangeAt Go.RowKit Go.Lib

theorem laid_from {P : Program} {W : World} {x : String × DataW Unit} {post : List (String × DataW Unit)} : ∀ pre : List (String × DataW Unit), laidMet P (pre ++ x :: post) W → laidMet P (x :: post) W
  | [], h => h
  | _ :: pre, h => laid_from pre h.tail
theorem laid_at {P : Program} {W : World} {x : String × DataW Unit} {l : List (String × DataW Unit)} (hm : x ∈ l) (h : laidMet P l W) : ∃ post, laidMet P (x :: post) W := by
  obtain ⟨pre, post, rfl⟩ := List.append_of_mem hm
  exact ⟨post, laid_from pre h⟩
theorem tPow : (Tryz.prog.globals[3]?).map (·.type) = some 164 := by kernel_rfl
theorem tRange : (Tryz.prog.globals[7]?).map (·.type) = some 103 := by kernel_rfl
theorem cU64 : Tryz.prog.cellsOf 137 = 1 := by kernel_rfl
theorem cTab : Tryz.prog.cellsOf 164 = 20 := by kernel_rfl
theorem pow10_data : Rows.laid_internal_strconv_uint64pow10 (H := Unit) = Lib.tabData .u64 Lib.pow10Tab := by rfl
theorem cErr : Tryz.prog.cellsOf 182 = 1 := by kernel_rfl
theorem cStr : Tryz.prog.cellsOf 9 = 1 := by kernel_rfl
theorem starErr : "*" ++ "errors.errorString" = "*errors.errorString" := by decide
theorem rowErr (u : TypeId) (h : Tryz.prog.typeName? 3 u = some "*errors.errorString") : u = 180 :=
  typeName_ptr_named (nm := "errors.errorString") (by rw [starErr]; kernel_rfl) (by kernel_rfl) (by decide) u (by rw [starErr]; exact h)
theorem var_lt {P : Program} {W : World} {n : String} {cs : Array Value} {g : Nat} (hg : P.globalNamed n = some g) (h : W.var? P n = some cs) : g < W.heap.size := by
  unfold World.var? at h
  simp only [hg, Option.bind_some] at h
  rcases Nat.lt_or_ge g W.heap.size with h' | h'
  · exact h'
  · simp [Array.getElem?_eq_none h'] at h
theorem startI_of_laid {W : World} {l : List (String × DataW Unit)} (hp : (l.all fun x => x.2.handleName?.isNone) = true)
    (h1 : ("internal/strconv.uint64pow10", Rows.laid_internal_strconv_uint64pow10) ∈ l) (h2 : ("strconv.ErrRange", Rows.laid_strconv_ErrRange) ∈ l) (h : laidMetH Tryz.prog l W) : StartI W := by
  rw [MakeChecks.laidMetH_plain _ _ _ hp] at h
  obtain ⟨p1, q1⟩ := laid_at h1 h
  obtain ⟨p2, q2⟩ := laid_at h2 h
  rw [pow10_data] at q1
  have ht := Lib.tabIs_of_head gPow tPow Tryz.underlying164 Tryz.underlying137 cU64 cTab q1
  obtain ⟨a0, s0, hv0, -, -, -⟩ := laid_sentinel q2 gRange tRange Tryz.underlying103 rowErr Tryz.underlying180 Tryz.underlying182 rfl rfl Tryz.underlying9 cErr cStr
  exact ⟨ht, ⟨_, _, hv0⟩, var_lt gPow ht, var_lt gRange hv0⟩
theorem start_of_laid {W : World} {l : List (String × DataW Unit)} (hp : (l.all fun x => x.2.handleName?.isNone) = true)
    (h1 : ("circa/years.leapRules", Rows.laid_circa_years_leapRules) ∈ l) (h2 : ("circa/months.lengths", Rows.laid_circa_months_lengths) ∈ l)
    (h3 : ("internal/strconv.uint64pow10", Rows.laid_internal_strconv_uint64pow10) ∈ l) (h4 : ("strconv.ErrRange", Rows.laid_strconv_ErrRange) ∈ l)
    (h : laidMetH Tryz.prog l W) : Start W := ⟨⟨startY_of_reads (reads_of_laid hp h h1), startM_of_reads (reads_of_laid hp h h2)⟩, startI_of_laid hp h3 h4 h⟩
end Go.Proofs.YtiemlpmhhbmfiaaGreatDoor
