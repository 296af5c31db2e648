/- From the listed variables to what the walks lean on. -/
import Derived.Test.YtmbaohjekeiphaaGreatDoorRunP
import Derived.Test.YtmbaohjekeiphaaGreatDoorHanded
import Derived.Shelf.Vars
import Derived.ProofKit
import Derived.OpenShut
import Derived.LaidMore
import Derived.ChangeSame
import Derived.Stop.Joined
import Derived.Stop.LaidErr
import Derived.Lib.LaidTab
import Derived.MakeChecks
import Derived.Lib.LaidU8
namespace Go.Proofs.YtmbaohjekeiphaaGreatDoor
open Go.ChangeShapes Go.WideShapes Go.ChangeAt Go.RowKit Go.Lib

theorem laid_from {P : Program} {W : World} {x : String × DataW Unit} {post : List (String × DataW Unit)} : ∀ pre : List (String × DataW Unit), laidMet P (pre ++ x :: post) W → laidMet P (x :: post) W
  | [], h => h
  | _ :: pre, h => laid_from pre h.tail
theorem laid_at {P : Program} {W : World} {x : String × DataW Unit} {l : List (String × DataW Unit)} (hm : x ∈ l) (h : laidMet P l W) : ∃ post, laidMet P (x :: post) W := by
  obtain ⟨pre, post, rfl⟩ := List.append_of_mem hm
  exact ⟨post, laid_from pre h⟩
theorem tPow : (Tryz.prog.globals[3]?).map (·.type) = some 159 := by kernel_rfl
theorem tRange : (Tryz.prog.globals[2]?).map (·.type) = some 120 := by kernel_rfl
theorem cU64 : Tryz.prog.cellsOf 136 = 1 := by kernel_rfl
theorem cTab : Tryz.prog.cellsOf 159 = 20 := by kernel_rfl
theorem pow10_data : Rows.laid_internal_strconv_uint64pow10 (H := Unit) = Lib.tabData .u64 Lib.pow10Tab := by rfl
theorem cErr : Tryz.prog.cellsOf 157 = 1 := by kernel_rfl
theorem cStr : Tryz.prog.cellsOf 9 = 1 := by kernel_rfl
theorem starErr : "*" ++ "errors.errorString" = "*errors.errorString" := by decide
theorem rowErr (u : TypeId) (h : Tryz.prog.typeName? 3 u = some "*errors.errorString") : u = 155 :=
  typeName_ptr_named (nm := "errors.errorString") (by rw [starErr]; kernel_rfl) (by kernel_rfl) (by decide) u (by rw [starErr]; exact h)
theorem var_lt {P : Program} {W : World} {n : String} {cs : Array Value} {g : Nat} (hg : P.globalNamed n = some g) (h : W.var? P n = some cs) : g < W.heap.size := by
  unfold World.var? at h
  simp only [hg, Option.bind_some] at h
  rcases Nat.lt_or_ge g W.heap.size with h' | h'
  · exact h'
  · simp [Array.getElem?_eq_none h'] at h
theorem startI_of_laid {W : World} {l : List (String × DataW Unit)} (hp : (l.all fun x => x.2.handleName?.isNone) = true)
    (h1 : ("internal/strconv.uint64pow10", Rows.laid_internal_strconv_uint64pow10) ∈ l) (h2 : ("strconv.ErrRange", Rows.laid_strconv_ErrRange) ∈ l) (h : laidMetH Tryz.prog l W) : StartI W := by
  rw [MakeChecks.laidMetH_plain _ _ _ hp] at h
  obtain ⟨p1, q1⟩ := laid_at h1 h
  obtain ⟨p2, q2⟩ := laid_at h2 h
  rw [pow10_data] at q1
  have ht := Lib.tabIs_of_head gPow tPow Tryz.underlying159 Tryz.underlying136 cU64 cTab q1
  obtain ⟨a0, s0, hv0, -, -, -⟩ := laid_sentinel q2 gRange tRange Tryz.underlying120 rowErr Tryz.underlying155 Tryz.underlying157 rfl rfl Tryz.underlying9 cErr cStr
  exact ⟨ht, ⟨_, _, hv0⟩, var_lt gPow ht, var_lt gRange hv0⟩
theorem maxL_of {W : World} (hs : W.ShapedOpen Tryz.prog) : MaxL W := by
  obtain ⟨m, hm⟩ := cell_of_shapedOpen_int (g := 0) (t := 3) (zero := #[.int .i64 0]) (k := .i64) hs (of_decide_eq_true (by kernel_rfl)) (by kernel_rfl) rfl (by kernel_rfl) (by kernel_rfl) Tryz.underlying3
  exact ⟨⟨m, hm⟩, World.block_lt_of_cell? W _ hm⟩
theorem start_of_laid {W : World} {l : List (String × DataW Unit)} (hp : (l.all fun x => x.2.handleName?.isNone) = true)
    (h1 : ("internal/strconv.uint64pow10", Rows.laid_internal_strconv_uint64pow10) ∈ l) (h2 : ("strconv.ErrRange", Rows.laid_strconv_ErrRange) ∈ l)
    (h : laidMetH Tryz.prog l W) (hs : W.ShapedOpen Tryz.prog) : Start W := ⟨startI_of_laid hp h1 h2 h, maxL_of hs⟩
end Go.Proofs.YtmbaohjekeiphaaGreatDoor
