/- Ends in blocks of memory; the equality of ends; the map of the infinities' texts, step by step. -/
import Derived.Test.YtmbaohjekeiphaaGreatDoorQ0
import Derived.Deep.RegionHeld3
import Derived.Deep.QuietTactic
import Derived.BigQuiet
import Derived.Laws.StructEq
import Derived.Laws.IdiomRangeMap
import Derived.Test.YtmbaohjekeiphaaGreatDoorQAll
import Derived.WalkKit
import Derived.Defers
namespace Go.Proofs.YtmbaohjekeiphaaGreatDoor
open Go.RowKit

/-- An end as a value. -/
abbrev E2 (i d : Int) : Value := .agg #[.int .i8 i, .int .i64 d]
/-- An end in a block of its own. -/
def BkE (w : World) (g : Nat) (i d : Int) : Prop := w.heap[g]? = some (.cells #[.int .i8 i, .int .i64 d] 24 (0, 0))
def Duo (g : Nat) (i d : Int) (X : World) : Prop := X.cell? ⟨g, 0, none⟩ = some (.int .i8 i) ∧ X.cell? ⟨g, 1, none⟩ = some (.int .i64 d)
theorem BkE.duo {w : World} {g : Nat} {i d : Int} (h : BkE w g i d) : Duo g i d w := ⟨cell_of_row w g 0 _ _ _ h, cell_of_row w g 1 _ _ _ h⟩
theorem BkE.frozen {w : World} {g : Nat} {i d : Int} (h : BkE w g i d) (n : Nat) : w.frozen? ⟨g, n, none⟩ = false := frozen_of_row w g n _ _ h
theorem BkE.below {w w' : World} {g B : Nat} {i d : Int} (h : BkE w g i d) (hg : g < B) (hb : Below B w w') : BkE w' g i d := (hb.block g hg).trans h
theorem BkE.store {w : World} {g : Nat} {i d : Int} (h : BkE w g i d) (x y : Int) : BkE ((w.setCell ⟨g, 0, none⟩ (.int .i8 x)).setCell ⟨g, 1, none⟩ (.int .i64 y)) g x y :=
  heap_setCell_same _ g 1 _ _ _ (heap_setCell_same w g 0 _ _ _ h)
theorem end_new (w : World) (i d : Int) (W : World) (hW : W = w.alloc (.cells #[.int .i8 i, .int .i64 d] 24)) : BkE W w.heap.size i d ∧ w.heap.size < W.heap.size ∧ Below w.heap.size w W := by
  subst hW
  exact ⟨heap_alloc_new w _, by simp, by go_grown⟩
theorem set2_below {w X : World} {B : Nat} (h : Below B w X) {g : Nat} (hg : B ≤ g) (x y : Int) : Below B w ((X.setCell ⟨g, 0, none⟩ (.int .i8 x)).setCell ⟨g, 1, none⟩ (.int .i64 y)) :=
  (h.setCell (p := ⟨g, 0, none⟩) hg _).setCell (p := ⟨g, 1, none⟩) hg _
theorem res_end1 {fn : Func} {t : Tmp} {tmps : Array Value} {W : World} {g : Nat} {i d : Int} (h : fn.results = #[.cell t 24]) (ha : tmps[t]?.getD undef = .pointer (some ⟨g, 0, none⟩)) (hb : Duo g i d W) :
    (results fn tmps).run Tryz.prog W = .ok (E2 i d) W := by
  obtain ⟨q0, q1⟩ := hb
  simp [results, h, go_sem, ha, q0, q1, E2]
theorem res_end2 {fn : Func} {t r : Tmp} {tmps : Array Value} {W : World} {g : Nat} {i d : Int} {z : Value} (h : fn.results = #[.cell t 24, .tmp r]) (ha : tmps[t]?.getD undef = .pointer (some ⟨g, 0, none⟩)) (hz : tmps[r]?.getD undef = z) (hb : Duo g i d W) :
    (results fn tmps).run Tryz.prog W = .ok (.tuple #[E2 i d, z]) W := by
  obtain ⟨q0, q1⟩ := hb
  simp [results, h, go_sem, ha, hz, q0, q1, E2]

theorem two_end (w : World) (i d j e : Int) (W : World) (hW : W = (w.alloc (.cells #[.int .i8 i, .int .i64 d] 24)).alloc (.cells #[.int .i8 j, .int .i64 e] 24)) : BkE W w.heap.size i d ∧ BkE W (w.heap.size + 1) j e ∧ W.heap.size = w.heap.size + 2 ∧ Below w.heap.size w W := by
  subst hW
  obtain ⟨h1, h2, h3⟩ := end_new w i d _ rfl
  obtain ⟨k1, k2, k3⟩ := end_new (w.alloc (.cells #[.int .i8 i, .int .i64 d] 24)) j e _ rfl
  refine ⟨h1.below h2 k3, ?_, by simp, h3.trans (k3.mono (Nat.le_of_lt h2))⟩
  have : (w.alloc (.cells #[.int .i8 i, .int .i64 d] 24)).heap.size = w.heap.size + 1 := by simp
  rw [this] at k1
  exact k1
namespace end8
noncomputable def fE (i : Nat) : Field := (Tryz.prog.fieldsOf 24).toList.getD i default
theorem fieldsE : (Tryz.prog.fieldsOf 24).toList = [fE 0, fE 1] := by kernel_rfl
theorem fE0 : (fE 0).name = "Inf" ∧ (fE 0).type = 22 ∧ (fE 0).offset = 0 := ⟨by kernel_rfl, by kernel_rfl, by kernel_rfl⟩
theorem fE1 : (fE 1).name = "Day" ∧ (fE 1).type = 2 ∧ (fE 1).offset = 1 := ⟨by kernel_rfl, by kernel_rfl, by kernel_rfl⟩
theorem partN (t : TypeId) (ht : ∀ w, (isAgg t).run Tryz.prog w = .ok false w) (xs : Array Value) (o : Nat) (v : Value) (h : xs[o]? = some v) (w : World) : (part t xs o).run Tryz.prog w = .ok v w := by
  simp [part, Sem.run_bind, ht, h]
theorem agg64 (w : World) : (isAgg 2).run Tryz.prog w = .ok false w := by kernel_rfl
theorem agg8 (w : World) : (isAgg 22).run Tryz.prog w = .ok false w := by kernel_rfl
theorem eqI_any (k : Nat) (a b x y : Int) (w : World) : (Op.equalIn (k + 2) 24 (E2 a b) (E2 x y)).run Tryz.prog w = .ok (a == x && b == y) w := by
  rw [run_equalIn_struct w (k + 1) 24 _ _ (by kernel_rfl) (by kernel_rfl), fieldsE]
  have p0 : ∀ (a b : Value) (w : World), (part 22 #[a, b] 0).run Tryz.prog w = .ok a w := fun a b w => partN _ agg8 _ _ _ rfl w
  have p1 : ∀ (a b : Value) (w : World), (part 2 #[a, b] 1).run Tryz.prog w = .ok b w := fun a b w => partN _ agg64 _ _ _ rfl w
  by_cases h1 : a = x <;> by_cases h2 : b = y
  all_goals
    simp [h1, h2, Op.eqFields, fE0, fE1, Sem.run_bind, p0, p1, Result.andThen_ok, run_equalIn_int w k _ .i8 .i8 _ _ Tryz.underlying22, run_equalIn_int w k _ .i64 .i64 _ _ Tryz.underlying2]
/-- Two ends, field by field. -/
def eqE (i d j e : Int) : Bool := i == j && d == e
theorem eqE_same (i d : Int) : eqE i d i d = true := by simp [eqE]
theorem eqE_iff {i d j e : Int} : eqE i d j e = true ↔ i = j ∧ d = e := by simp [eqE]
theorem eq_any (i d j e : Int) (w : World) : (binOp .eql 24 (E2 i d) (E2 j e)).run Tryz.prog w = .ok (.bool (eqE i d j e)) w := by
  rw [run_eql_struct, eqI_any 9998]; rfl
theorem ne_any (i d j e : Int) (w : World) : (binOp .neq 24 (E2 i d) (E2 j e)).run Tryz.prog w = .ok (.bool (!eqE i d j e)) w := by
  rw [run_neq_struct, eqI_any 9998]; rfl
end end8
end Go.Proofs.YtmbaohjekeiphaaGreatDoor
/- Ends as whole numbers: right ones, their order, the next one and the one before, their texts. No program is in it. -/
namespace Go.Proofs.YtmbaohjekeiphaaGreatDoor

def I64 (n : Int) : Prop := -9223372036854775808 ≤ n ∧ n ≤ 9223372036854775807
def I8 (n : Int) : Prop := -128 ≤ n ∧ n ≤ 127
/-- The error of an end. -/
def enE (i d : Int) : Int := if i = 0 then 0 else if (i = 1 ∨ i = -1) ∧ d = 0 then 0 else 5
/-- How two ends compare. -/
def enC (i d j e : Int) : Int := if i < j then -1 else if j < i then 1 else if d < e then -1 else if e < d then 1 else 0
/-- The next end: the error, and its two fields. -/
def nxE (i d : Int) : Int := if enE i d = 0 then (if i = 0 ∧ d = 9223372036854775807 then 15 else 0) else 5
def nxI (i d : Int) : Int := if nxE i d = 0 then i else 0
def nxD (i d : Int) : Int := if nxE i d = 0 then (if i = 0 then d + 1 else d) else 0
/-- The end before. -/
def pvE (i d : Int) : Int := if enE i d = 0 then (if i = 0 ∧ d = -9223372036854775808 then 15 else 0) else 5
def pvI (i d : Int) : Int := if pvE i d = 0 then i else 0
def pvD (i d : Int) : Int := if pvE i d = 0 then (if i = 0 then d - 1 else d) else 0
/-- The text of a right end. -/
def enL (i d : Int) : List UInt8 := if i < 0 then [45, 105, 110, 102] else if 0 < i then [105, 110, 102] else Lib.itoa d
def enS (i d : Int) : ByteArray := ⟨(enL i d).toArray⟩
def infS : ByteArray := ⟨#[105, 110, 102]⟩
def minS : ByteArray := ⟨#[45, 105, 110, 102]⟩
/-- What a text is the end of: the error, and its two fields. -/
def prE (s : ByteArray) : Int := if s = infS ∨ s = minS then 0 else if isTextB s.data.toList = true then (if -9223372036854775808 ≤ valB s.data.toList ∧ valB s.data.toList ≤ 9223372036854775807 then 0 else 15) else 5
def prI (s : ByteArray) : Int := if s = infS then 1 else if s = minS then -1 else 0
def prD (s : ByteArray) : Int := if s = infS ∨ s = minS then 0 else if prE s = 0 then valB s.data.toList else 0

theorem enE_cases (i d : Int) : (enE i d = 0 ∧ i = 0) ∨ (enE i d = 0 ∧ i = 1 ∧ d = 0) ∨ (enE i d = 0 ∧ i = -1 ∧ d = 0) ∨ (enE i d = 5 ∧ ¬ i = 0 ∧ ((i = 1 ∧ ¬ d = 0) ∨ (i = -1 ∧ ¬ d = 0) ∨ (¬ i = 1 ∧ ¬ i = -1))) := by
  unfold enE
  by_cases h0 : i = 0
  · simp [h0]
  · rw [if_neg h0]
    by_cases h1 : i = 1
    · by_cases hd : d = 0 <;> simp [h1, hd]
    · by_cases h2 : i = -1
      · by_cases hd : d = 0 <;> simp [h2, hd]
      · simp [h0, h1, h2]
theorem nxE_cases (i d : Int) : (enE i d = 0 ∧ i = 0 ∧ d = 9223372036854775807 ∧ (nxI i d = 0 ∧ nxD i d = 0 ∧ nxE i d = 15)) ∨ (enE i d = 0 ∧ i = 0 ∧ ¬ d = 9223372036854775807 ∧ (nxI i d = 0 ∧ nxD i d = d + 1 ∧ nxE i d = 0)) ∨ (enE i d = 0 ∧ i = 1 ∧ d = 0 ∧ (nxI i d = 1 ∧ nxD i d = 0 ∧ nxE i d = 0)) ∨ (enE i d = 0 ∧ i = -1 ∧ d = 0 ∧ (nxI i d = -1 ∧ nxD i d = 0 ∧ nxE i d = 0)) ∨ (enE i d = 5 ∧ (nxI i d = 0 ∧ nxD i d = 0 ∧ nxE i d = 5)) := by
  rcases enE_cases i d with ⟨e, rfl⟩ | ⟨e, rfl, rfl⟩ | ⟨e, rfl, rfl⟩ | ⟨e, -⟩
  · by_cases h : d = 9223372036854775807
    · subst h; exact .inl ⟨e, rfl, rfl, by decide, by decide, by decide⟩
    · have hE : nxE 0 d = 0 := by unfold nxE; rw [if_pos e, if_neg (fun q => h q.2)]
      exact .inr (.inl ⟨e, rfl, h, if_pos hE, by unfold nxD; rw [if_pos hE]; rfl, hE⟩)
  · exact .inr (.inr (.inl ⟨e, rfl, rfl, by decide, by decide, by decide⟩))
  · exact .inr (.inr (.inr (.inl ⟨e, rfl, rfl, by decide, by decide, by decide⟩)))
  · have hE : nxE i d = 5 := by unfold nxE; rw [if_neg (by rw [e]; decide)]
    exact .inr (.inr (.inr (.inr ⟨e, if_neg (by rw [hE]; decide), if_neg (by rw [hE]; decide), hE⟩)))

theorem pvE_cases (i d : Int) : (enE i d = 0 ∧ i = 0 ∧ d = (-9223372036854775808) ∧ (pvI i d = 0 ∧ pvD i d = 0 ∧ pvE i d = 15)) ∨ (enE i d = 0 ∧ i = 0 ∧ ¬ d = (-9223372036854775808) ∧ (pvI i d = 0 ∧ pvD i d = d - 1 ∧ pvE i d = 0)) ∨ (enE i d = 0 ∧ i = 1 ∧ d = 0 ∧ (pvI i d = 1 ∧ pvD i d = 0 ∧ pvE i d = 0)) ∨ (enE i d = 0 ∧ i = -1 ∧ d = 0 ∧ (pvI i d = -1 ∧ pvD i d = 0 ∧ pvE i d = 0)) ∨ (enE i d = 5 ∧ (pvI i d = 0 ∧ pvD i d = 0 ∧ pvE i d = 5)) := by
  rcases enE_cases i d with ⟨e, rfl⟩ | ⟨e, rfl, rfl⟩ | ⟨e, rfl, rfl⟩ | ⟨e, -⟩
  · by_cases h : d = (-9223372036854775808)
    · subst h; exact .inl ⟨e, rfl, rfl, by decide, by decide, by decide⟩
    · have hE : pvE 0 d = 0 := by unfold pvE; rw [if_pos e, if_neg (fun q => h q.2)]
      exact .inr (.inl ⟨e, rfl, h, if_pos hE, by unfold pvD; rw [if_pos hE]; rfl, hE⟩)
  · exact .inr (.inr (.inl ⟨e, rfl, rfl, by decide, by decide, by decide⟩))
  · exact .inr (.inr (.inr (.inl ⟨e, rfl, rfl, by decide, by decide, by decide⟩)))
  · have hE : pvE i d = 5 := by unfold pvE; rw [if_neg (by rw [e]; decide)]
    exact .inr (.inr (.inr (.inr ⟨e, if_neg (by rw [hE]; decide), if_neg (by rw [hE]; decide), hE⟩)))
theorem prE_cases (s : ByteArray) : (s = infS ∧ (prI s = 1 ∧ prD s = 0 ∧ prE s = 0)) ∨ (¬ s = infS ∧ s = minS ∧ (prI s = -1 ∧ prD s = 0 ∧ prE s = 0)) ∨ (¬ s = infS ∧ ¬ s = minS ∧ isTextB s.data.toList = false ∧ (prI s = 0 ∧ prD s = 0 ∧ prE s = 5)) ∨ (¬ s = infS ∧ ¬ s = minS ∧ isTextB s.data.toList = true ∧ fitsB (valB s.data.toList) = false ∧ (prI s = 0 ∧ prD s = 0 ∧ prE s = 15)) ∨ (¬ s = infS ∧ ¬ s = minS ∧ isTextB s.data.toList = true ∧ fitsB (valB s.data.toList) = true ∧ (prI s = 0 ∧ prD s = valB s.data.toList ∧ prE s = 0)) := by
  unfold prD prI prE fitsB
  by_cases h1 : s = infS
  · simp [h1]
  · by_cases h2 : s = minS
    · have : ¬ minS = infS := by decide
      simp [h2, this]
    · cases h3 : isTextB s.data.toList
      · simp [h1, h2]
      · by_cases h4 : -9223372036854775808 ≤ valB s.data.toList ∧ valB s.data.toList ≤ 9223372036854775807
        · simp [h1, h2, h4]
        · simp [h1, h2, h4]
theorem str_is {s : ByteArray} {l : List UInt8} (h : s = ⟨l.toArray⟩) : (s.toList == l) = true := by rw [beq_iff_eq, ByteArray.toList_eq, h]
theorem str_not {s : ByteArray} {l : List UInt8} (h : ¬ s = ⟨l.toArray⟩) : (s.toList == l) = false := by
  rw [beq_eq_false_iff_ne, ByteArray.toList_eq]
  intro e
  apply h
  rw [← e]
theorem minS_not : minS ≠ infS := by decide
theorem enS_inf (d : Int) : enS 1 d = infS := rfl
theorem enS_min (d : Int) : enS (-1) d = minS := rfl
theorem enS_day (d : Int) : enS 0 d = ⟨(Lib.itoa d).toArray⟩ := rfl
theorem itoa_head (d : Int) : ∀ c r, Lib.itoa d = c :: r → c ≠ 105 := by
  intro c r h hc
  obtain ⟨h1, _⟩ := itoa_facts d
  rw [h, hc] at h1
  revert h1
  unfold isTextB bare Lib.trimPrefix Lib.hasPrefix
  simp [digitB]
end Go.Proofs.YtmbaohjekeiphaaGreatDoor
/- The reference of ends (circaref08): Check, Compare, Next, Prev. -/
namespace Go.Proofs.YtmbaohjekeiphaaGreatDoor
open Go.RowKit

theorem chkE_any (i d : Int) (w : World) :
    Calls Tryz.prog 34 #[E2 i d] w fun e w' => e = .returned (.int .i64 (enE i d)) ∧ Below w.heap.size w w' := by
  rcases enE_cases i d with ⟨e, rfl⟩ | ⟨e, rfl, rfl⟩ | ⟨e, rfl, rfl⟩ | ⟨e, h0, ⟨rfl, h⟩ | ⟨rfl, h⟩ | ⟨h1, h2⟩⟩
  · rw [e]; clear e
    go_enter Tryz.func34, Tryz.ntmps34
    go_upto_region 1 with fail
    obtain ⟨hK, hlt, hb⟩ := end_new w 0 d _ rfl
    generalize (w.alloc (Obj.cells #[Value.int IntKind.i8 0, Value.int IntKind.i64 d] 24)) = W1 at *
    obtain ⟨f0, f1⟩ := hK.duo
    clear hK
    go_wp2
    go_ret
    exact ⟨rfl, hb⟩
  · rw [e]; clear e
    go_enter Tryz.func34, Tryz.ntmps34
    go_upto_region 1 with fail
    obtain ⟨hK, hlt, hb⟩ := end_new w 1 0 _ rfl
    generalize (w.alloc (Obj.cells #[Value.int IntKind.i8 1, Value.int IntKind.i64 0] 24)) = W1 at *
    obtain ⟨f0, f1⟩ := hK.duo
    clear hK
    go_wp2
    go_ret
    exact ⟨rfl, hb⟩
  · rw [e]; clear e
    go_enter Tryz.func34, Tryz.ntmps34
    go_upto_region 1 with fail
    obtain ⟨hK, hlt, hb⟩ := end_new w (-1) 0 _ rfl
    generalize (w.alloc (Obj.cells #[Value.int IntKind.i8 (-1), Value.int IntKind.i64 0] 24)) = W1 at *
    obtain ⟨f0, f1⟩ := hK.duo
    clear hK
    go_wp2
    go_ret
    exact ⟨rfl, hb⟩
  · rw [e]; clear e
    have hd : (d == 0) = false := beq_eq_false_iff_ne.2 h
    clear h h0
    go_enter Tryz.func34, Tryz.ntmps34
    go_upto_region 1 with fail
    obtain ⟨hK, hlt, hb⟩ := end_new w 1 d _ rfl
    generalize (w.alloc (Obj.cells #[Value.int IntKind.i8 1, Value.int IntKind.i64 d] 24)) = W1 at *
    obtain ⟨f0, f1⟩ := hK.duo
    clear hK
    go_wp2
    go_ret
    exact ⟨rfl, hb⟩
  · rw [e]; clear e
    have hd : (d == 0) = false := beq_eq_false_iff_ne.2 h
    clear h h0
    go_enter Tryz.func34, Tryz.ntmps34
    go_upto_region 1 with fail
    obtain ⟨hK, hlt, hb⟩ := end_new w (-1) d _ rfl
    generalize (w.alloc (Obj.cells #[Value.int IntKind.i8 (-1), Value.int IntKind.i64 d] 24)) = W1 at *
    obtain ⟨f0, f1⟩ := hK.duo
    clear hK
    go_wp2
    go_ret
    exact ⟨rfl, hb⟩
  · rw [e]; clear e
    have g0 : (i == 0) = false := beq_eq_false_iff_ne.2 h0
    have g1 : (i == 1) = false := beq_eq_false_iff_ne.2 h1
    have g2 : (i == -1) = false := beq_eq_false_iff_ne.2 h2
    clear h0 h1 h2
    go_enter Tryz.func34, Tryz.ntmps34
    go_upto_region 1 with fail
    obtain ⟨hK, hlt, hb⟩ := end_new w i d _ rfl
    generalize (w.alloc (Obj.cells #[Value.int IntKind.i8 i, Value.int IntKind.i64 d] 24)) = W1 at *
    obtain ⟨f0, f1⟩ := hK.duo
    clear hK
    go_wp2
    go_ret
    exact ⟨rfl, hb⟩

theorem enC_cases (i d j e : Int) : (i < j ∧ enC i d j e = -1) ∨ (¬ i < j ∧ j < i ∧ enC i d j e = 1) ∨ (¬ i < j ∧ ¬ j < i ∧ d < e ∧ enC i d j e = -1) ∨ (¬ i < j ∧ ¬ j < i ∧ ¬ d < e ∧ e < d ∧ enC i d j e = 1) ∨ (¬ i < j ∧ ¬ j < i ∧ ¬ d < e ∧ ¬ e < d ∧ enC i d j e = 0) := by
  unfold enC
  by_cases h1 : i < j
  · simp [h1]
  · by_cases h2 : j < i
    · simp [h1, h2]
    · by_cases h3 : d < e
      · simp [h1, h2, h3]
      · by_cases h4 : e < d <;> simp [h1, h2, h3, h4]
theorem cmpE_any (i d j e : Int) (w : World) :
    Calls Tryz.prog 35 #[E2 i d, E2 j e] w fun x w' => x = .returned (.int .i64 (enC i d j e)) ∧ Below w.heap.size w w' := by
  rcases enC_cases i d j e with ⟨h1, q⟩ | ⟨h1, h2, q⟩ | ⟨h1, h2, h3, q⟩ | ⟨h1, h2, h3, h4, q⟩ | ⟨h1, h2, h3, h4, q⟩
  all_goals
    rw [q]; clear q
    go_enter Tryz.func35, Tryz.ntmps35
    go_upto_region 1 with fail
    obtain ⟨hK, hL, -, hb⟩ := two_end w i d j e _ rfl
    generalize ((w.alloc (Obj.cells #[Value.int IntKind.i8 i, Value.int IntKind.i64 d] 24)).alloc (Obj.cells #[Value.int IntKind.i8 j, Value.int IntKind.i64 e] 24)) = W1 at *
    obtain ⟨f0, f1⟩ := hK.duo
    obtain ⟨l0, l1⟩ := hL.duo
    clear hK hL
    go_wp2
    go_ret
    exact ⟨rfl, hb⟩

end Go.Proofs.YtmbaohjekeiphaaGreatDoor
/- The reference of ends (circaref08): Text and Parse. -/
namespace Go.Proofs.YtmbaohjekeiphaaGreatDoor
open Go.RowKit

theorem fit_id {z : Int} (h : fitsB z = true) : fitV z = z := by
  have := of_decide_eq_true h
  exact fitV_in this.1 this.2
theorem fit_no {z : Int} (h : fitsB z = false) : fitV z = 0 := by
  have := of_decide_eq_false h
  exact fitV_out (by omega)
theorem enS_zero (d : Int) : enS 0 d = ⟨(Lib.itoa d).toArray⟩ := rfl
set_option maxRecDepth 100000 in
theorem texE_any (i d : Int) (w : World) (hd : I64 d) :
    Calls Tryz.prog 85 #[E2 i d] w fun x w' => x = .returned (.string (enS i d)) ∧ Below w.heap.size w w' := by
  rcases (show i < 0 ∨ (¬ i < 0 ∧ 0 < i) ∨ i = 0 by omega) with h | ⟨h, h2⟩ | rfl
  · have HS : Hid (enS i d = ⟨#[45, 105, 110, 102]⟩) := by show _ = _; unfold enS enL; rw [if_pos h]
    rw [HS.out]
    go_enter Tryz.func85, Tryz.ntmps85
    go_upto_region 1 with fail
    obtain ⟨hK, hlt, hb⟩ := end_new w i d _ rfl
    generalize (w.alloc (Obj.cells #[Value.int IntKind.i8 i, Value.int IntKind.i64 d] 24)) = W1 at *
    obtain ⟨f0, f1⟩ := hK.duo
    go_wp2
    go_ret
    exact ⟨rfl, hb⟩
  · have HS : Hid (enS i d = ⟨#[105, 110, 102]⟩) := by show _ = _; unfold enS enL; rw [if_neg h, if_pos h2]
    rw [HS.out]
    go_enter Tryz.func85, Tryz.ntmps85
    go_upto_region 1 with fail
    obtain ⟨hK, hlt, hb⟩ := end_new w i d _ rfl
    generalize (w.alloc (Obj.cells #[Value.int IntKind.i8 i, Value.int IntKind.i64 d] 24)) = W1 at *
    obtain ⟨f0, f1⟩ := hK.duo
    go_wp2
    go_ret
    exact ⟨rfl, hb⟩
  · rw [enS_zero]
    have HO := Lib.hid (fun X => of_any d X hd.1 hd.2)
    have HT := Lib.hid (fun v X hv => textR_any v d X hv (lim_int hd.1 hd.2))
    go_enter Tryz.func85, Tryz.ntmps85
    go_upto_region 1 with fail
    obtain ⟨hK, hlt, hb⟩ := end_new w 0 d _ rfl
    generalize (w.alloc (Obj.cells #[Value.int IntKind.i8 0, Value.int IntKind.i64 d] 24)) = W1 at *
    obtain ⟨f0, f1⟩ := hK.duo
    go_wp2_with (first
      | (go_at_call 56; ((with_reducible refine (HO.out _).mono ?_); rintro e w2 ⟨u, rfl, hu, hb2⟩))
      | (go_at_call 92; ((with_reducible refine (HT.out _ _ hu).mono ?_); rintro e w3 ⟨rfl, hb3⟩)))
    go_ret
    exact ⟨rfl, hb.trans ((hb2.trans (hb3.mono hb2.size)).mono (Nat.le_of_lt hlt))⟩
set_option maxRecDepth 100000 in
theorem parE_any (s : ByteArray) (w : World) (hs : s.size ≤ 100) :
    Calls Tryz.prog 62 #[.string s] w fun x w' => x = .returned (.tuple #[E2 (prI s) (prD s), .int .i64 (prE s)]) ∧ Below w.heap.size w w' := by
  rcases prE_cases s with ⟨h1, q⟩ | ⟨h1, h2, q⟩ | ⟨h1, h2, h3, q⟩ | ⟨h1, h2, h3, h4, q⟩ | ⟨h1, h2, h3, h4, q⟩
  all_goals
    rw [q.1, q.2.1, q.2.2]
    clear q
  · have a1 := str_is h1
    clear h1
    go_enter Tryz.func62, Tryz.ntmps62
    go_upto_region 1 with fail
    obtain ⟨hK, hlt, hb⟩ := end_new w 0 0 _ rfl
    generalize (w.alloc (Obj.cells #[Value.int IntKind.i8 0, Value.int IntKind.i64 0] 24)) = W1 at *
    obtain ⟨f0, f1⟩ := hK.duo
    have z0 := hK.frozen 0
    have z1 := hK.frozen 1
    have HL := Lib.hid hK
    clear hK
    go_wp2_with fail
    exact bodyPost_ret (res_end2 rfl rfl rfl (HL.out.store 1 0).duo) rfl ⟨rfl, set2_below hb (Nat.le_refl _) 1 0⟩
  · have a1 := str_not h1
    have a2 := str_is h2
    clear h1 h2
    go_enter Tryz.func62, Tryz.ntmps62
    go_upto_region 1 with fail
    obtain ⟨hK, hlt, hb⟩ := end_new w 0 0 _ rfl
    generalize (w.alloc (Obj.cells #[Value.int IntKind.i8 0, Value.int IntKind.i64 0] 24)) = W1 at *
    obtain ⟨f0, f1⟩ := hK.duo
    have z0 := hK.frozen 0
    have z1 := hK.frozen 1
    have HL := Lib.hid hK
    clear hK
    go_wp2_with fail
    exact bodyPost_ret (res_end2 rfl rfl rfl (HL.out.store (-1) 0).duo) rfl ⟨rfl, set2_below hb (Nat.le_refl _) (-1) 0⟩
  · have a1 := str_not h1
    have a2 := str_not h2
    have HP := Lib.hid (fun X => parseR_gen s false (valB s.data.toList) X hs h3 rfl)
    clear h1 h2 h3
    go_enter Tryz.func62, Tryz.ntmps62
    go_upto_region 1 with fail
    obtain ⟨hK, hlt, hb⟩ := end_new w 0 0 _ rfl
    generalize (w.alloc (Obj.cells #[Value.int IntKind.i8 0, Value.int IntKind.i64 0] 24)) = W1 at *
    go_upto_region 6 with (go_at_call 82; ((with_reducible refine (HP.out _).mono ?_); rintro e w2 ⟨b, A, n, c, rfl, hN, hb2⟩))
    obtain ⟨hM, hb3, hl3⟩ := one_new w2 #[.bool b, .slice A n c] _ rfl
    generalize (w2.alloc (Obj.cells #[Value.bool b, Value.slice A n c] 80)) = W3 at *
    have hb23 := hb2.trans (hb3.mono hb2.size)
    have hK3 := hK.below hlt hb23
    have hB3 := hb.trans (hb23.mono (Nat.le_of_lt hlt))
    clear hM hN hb3 hb23
    clear hb hK HP hb2
    obtain ⟨f0, f1⟩ := hK3.duo
    have z0 := hK3.frozen 0
    have z1 := hK3.frozen 1
    have HL := Lib.hid hK3
    clear hK3
    go_wp2_with fail
    exact bodyPost_ret (res_end2 rfl rfl rfl (HL.out.store 0 0).duo) rfl ⟨rfl, set2_below hB3 (Nat.le_refl _) 0 0⟩
  · have a1 := str_not h1
    have a2 := str_not h2
    have HP := Lib.hid (fun X => parseR_gen s true (valB s.data.toList) X hs h3 rfl)
    clear h1 h2
    have HI := Lib.hid (fun v X hv => int_any v (valB s.data.toList) X hv (text_lim h3 hs))
    rw [h4] at HI
    have hfv : fitV (valB s.data.toList) = 0 := fit_no h4
    rw [hfv] at HI
    clear hfv
    clear h3 h4
    generalize valB s.data.toList = z at *
    go_enter Tryz.func62, Tryz.ntmps62
    go_upto_region 1 with fail
    obtain ⟨hK, hlt, hb⟩ := end_new w 0 0 _ rfl
    generalize (w.alloc (Obj.cells #[Value.int IntKind.i8 0, Value.int IntKind.i64 0] 24)) = W1 at *
    go_upto_region 6 with (go_at_call 82; ((with_reducible refine (HP.out _).mono ?_); rintro e w2 ⟨b, A, n, c, rfl, hN, hb2⟩))
    obtain ⟨hM, hb3, hl3⟩ := one_new w2 #[.bool b, .slice A n c] _ rfl
    generalize (w2.alloc (Obj.cells #[Value.bool b, Value.slice A n c] 80)) = W3 at *
    have hb23 := hb2.trans (hb3.mono hb2.size)
    have hK3 := hK.below hlt hb23
    have hB3 := hb.trans (hb23.mono (Nat.le_of_lt hlt))
    have hN3 := (hN (by trivial)).below hb3
    have m0 := hM.cell 0
    have m1 := hM.cell 1
    simp at m0 m1
    have hlt3 := Nat.lt_of_lt_of_le hlt hb23.size
    clear hM hN hb3 hb23
    clear hb hK HP hb2
    go_upto_region 9 with (go_at_call 54; ((with_reducible refine (HI.out _ _ hN3).mono ?_); rintro e w4 ⟨rfl, hb4⟩))
    have hK4 := hK3.below hlt3 hb4
    have hB4 := hB3.trans (hb4.mono hB3.size)
    clear hK3 hB3 hb4 HI hN3
    obtain ⟨f0, f1⟩ := hK4.duo
    have z0 := hK4.frozen 0
    have z1 := hK4.frozen 1
    have HL := Lib.hid hK4
    clear hK4
    go_wp2_with fail
    exact bodyPost_ret (res_end2 rfl rfl rfl (HL.out.store 0 0).duo) rfl ⟨rfl, set2_below hB4 (Nat.le_refl _) 0 0⟩
  · have a1 := str_not h1
    have a2 := str_not h2
    have HP := Lib.hid (fun X => parseR_gen s true (valB s.data.toList) X hs h3 rfl)
    clear h1 h2
    have HI := Lib.hid (fun v X hv => int_any v (valB s.data.toList) X hv (text_lim h3 hs))
    rw [h4] at HI
    have hfv : fitV (valB s.data.toList) = valB s.data.toList := fit_id h4
    rw [hfv] at HI
    clear hfv
    clear h3 h4
    generalize valB s.data.toList = z at *
    go_enter Tryz.func62, Tryz.ntmps62
    go_upto_region 1 with fail
    obtain ⟨hK, hlt, hb⟩ := end_new w 0 0 _ rfl
    generalize (w.alloc (Obj.cells #[Value.int IntKind.i8 0, Value.int IntKind.i64 0] 24)) = W1 at *
    go_upto_region 6 with (go_at_call 82; ((with_reducible refine (HP.out _).mono ?_); rintro e w2 ⟨b, A, n, c, rfl, hN, hb2⟩))
    obtain ⟨hM, hb3, hl3⟩ := one_new w2 #[.bool b, .slice A n c] _ rfl
    generalize (w2.alloc (Obj.cells #[Value.bool b, Value.slice A n c] 80)) = W3 at *
    have hb23 := hb2.trans (hb3.mono hb2.size)
    have hK3 := hK.below hlt hb23
    have hB3 := hb.trans (hb23.mono (Nat.le_of_lt hlt))
    have hN3 := (hN (by trivial)).below hb3
    have m0 := hM.cell 0
    have m1 := hM.cell 1
    simp at m0 m1
    have hlt3 := Nat.lt_of_lt_of_le hlt hb23.size
    clear hM hN hb3 hb23
    clear hb hK HP hb2
    go_upto_region 9 with (go_at_call 54; ((with_reducible refine (HI.out _ _ hN3).mono ?_); rintro e w4 ⟨rfl, hb4⟩))
    have hK4 := hK3.below hlt3 hb4
    have hB4 := hB3.trans (hb4.mono hB3.size)
    clear hK3 hB3 hb4 HI hN3
    obtain ⟨f0, f1⟩ := hK4.duo
    have z0 := hK4.frozen 0
    have z1 := hK4.frozen 1
    have HL := Lib.hid hK4
    clear hK4
    go_wp2_with fail
    exact bodyPost_ret (res_end2 rfl rfl rfl (HL.out.store 0 z).duo) rfl ⟨rfl, set2_below hB4 (Nat.le_refl _) 0 z⟩
end Go.Proofs.YtmbaohjekeiphaaGreatDoor
/- The functions of package ends, for the landed code: Of, isDay, isInfinity, Check. -/
namespace Go.Proofs.YtmbaohjekeiphaaGreatDoor
open Go.RowKit

theorem kof_any (d : Int) (w : World) : Calls Tryz.prog 47 #[.int .i64 d] w fun x w' => x = .returned (E2 0 d) ∧ Below w.heap.size w w' := by
  go_enter Tryz.func47, Tryz.ntmps47
  go_upto_region 1 with fail
  obtain ⟨hK, hlt, hb⟩ := end_new w 0 0 _ rfl
  generalize (w.alloc (Obj.cells #[Value.int IntKind.i8 0, Value.int IntKind.i64 0] 24)) = W1 at *
  have z0 := hK.frozen 0
  have z1 := hK.frozen 1
  obtain ⟨f0, f1⟩ := id hK.duo
  have HK := Lib.hid hK
  have HB := Lib.hid hb
  clear hK hb
  go_wp2
  exact bodyPost_ret (res_end1 rfl rfl (HK.out.store 0 d).duo) rfl ⟨rfl, set2_below HB.out (Nat.le_refl _) 0 d⟩

theorem callB {f : FuncId} {args : Array Value} {v : Ending} {W X : World} (hc : ∀ X, Calls Tryz.prog f args X fun x w' => x = v ∧ Below X.heap.size X w') (h : Below W.heap.size W X) :
    Calls Tryz.prog f args X fun x w' => x = v ∧ Below W.heap.size W w' := (hc X).mono fun _ _ ⟨h1, h2⟩ => ⟨h1, h.trans (h2.mono h.size)⟩

set_option maxRecDepth 100000 in
theorem kday_any (i d : Int) (w : World) : Calls Tryz.prog 65 #[E2 i d] w fun x w' => x = .returned (.bool (decide (i = 0))) ∧ Below w.heap.size w w' := by
  have hv : end8.eqE i d 0 d = decide (i = 0) := by unfold end8.eqE; rw [beq_self_eq_true, Bool.and_true]; rfl
  have q := fun w => end8.eq_any i d 0 d w
  rw [hv] at q
  clear hv
  generalize decide (i = 0) = b at *
  go_enter Tryz.func65, Tryz.ntmps65
  go_upto_region 1 with fail
  obtain ⟨hK, hlt, hb⟩ := end_new w i d _ rfl
  generalize (w.alloc (Obj.cells #[Value.int IntKind.i8 i, Value.int IntKind.i64 d] 24)) = W1 at *
  obtain ⟨f0, f1⟩ := id hK.duo
  have HO := Lib.hid (fun X (h : Below W1.heap.size W1 X) => callB (kof_any d) h)
  go_region_held3 (fun x => x.cell? ⟨w.heap.size, 0, none⟩ = some (.int .i8 i) ∧ x.cell? ⟨w.heap.size, 1, none⟩ = some (.int .i64 d)) (go_keep)
    (first
      | (go_at_call 47; ((with_reducible refine (HO.out _ (by go_grown)).mono ?_); rintro e w2 ⟨rfl, hk⟩; (try clear m0 m1); obtain ⟨m0, m1⟩ := (hK.below hlt hk).duo)))
  all_goals
    have HB := Lib.hid (hb.trans (hk.mono (Nat.le_of_lt hlt)))
    go_wp2
    go_ret
    exact ⟨rfl, HB.out⟩

/-- Whether an end is an infinity. -/
def infB (i d : Int) : Bool := (i == -1 && d == 0) || (i == 1 && d == 0)
set_option maxRecDepth 100000 in
theorem kinf_any (i d : Int) (w : World) : Calls Tryz.prog 66 #[E2 i d] w fun x w' => x = .returned (.bool (infB i d)) ∧ Below w.heap.size w w' := by
  have q1 := fun w => end8.eq_any i d (-1) 0 w
  have q2 := fun w => end8.eq_any i d 1 0 w
  have hv : infB i d = (end8.eqE i d (-1) 0 || end8.eqE i d 1 0) := rfl
  rw [hv]; clear hv
  generalize end8.eqE i d (-1) 0 = b at *
  generalize end8.eqE i d 1 0 = c at *
  cases b
  all_goals
    go_enter Tryz.func66, Tryz.ntmps66
    go_upto_region 1 with fail
    obtain ⟨hK, hlt, hb⟩ := end_new w i d _ rfl
    generalize (w.alloc (Obj.cells #[Value.int IntKind.i8 i, Value.int IntKind.i64 d] 24)) = W1 at *
    obtain ⟨f0, f1⟩ := id hK.duo
    go_wp2
    go_ret
    exact ⟨rfl, hb⟩

theorem kchk_cases (i d : Int) : (i = 0 ∧ enE i d = 0) ∨ (¬ i = 0 ∧ infB i d = true ∧ enE i d = 0) ∨ (¬ i = 0 ∧ infB i d = false ∧ enE i d = 5) := by
  unfold infB
  rcases enE_cases i d with ⟨e, h⟩ | ⟨e, rfl, rfl⟩ | ⟨e, rfl, rfl⟩ | ⟨e, h0, ⟨rfl, h⟩ | ⟨rfl, h⟩ | ⟨h1, h2⟩⟩
  · exact .inl ⟨h, e⟩
  · exact .inr (.inl ⟨by decide, rfl, e⟩)
  · exact .inr (.inl ⟨by decide, rfl, e⟩)
  · exact .inr (.inr ⟨h0, by simp [h], e⟩)
  · exact .inr (.inr ⟨h0, by simp [h], e⟩)
  · exact .inr (.inr ⟨h0, by simp [h1, h2], e⟩)
set_option maxRecDepth 100000 in
theorem kchk_any (i d : Int) (w : World) : Calls Tryz.prog 37 #[E2 i d] w fun x w' => x = .returned (.int .i64 (enE i d)) ∧ Below w.heap.size w w' := by
  have hD := fun X => kday_any i d X
  have hI := fun X => kinf_any i d X
  rcases kchk_cases i d with ⟨h, e⟩ | ⟨h, h2, e⟩ | ⟨h, h2, e⟩
  · rw [decide_eq_true h] at hD
    rw [e]; clear e h hI
    go_enter Tryz.func37, Tryz.ntmps37
    go_upto_region 1 with fail
    obtain ⟨hK, hlt, hb⟩ := end_new w i d _ rfl
    generalize (w.alloc (Obj.cells #[Value.int IntKind.i8 i, Value.int IntKind.i64 d] 24)) = W1 at *
    obtain ⟨f0, f1⟩ := id hK.duo
    have HD := Lib.hid (fun X (h : Below W1.heap.size W1 X) => callB hD h)
    clear hD
    go_wp2_with (go_at_call 65; ((with_reducible refine (HD.out _ (by go_grown)).mono ?_); rintro e w2 ⟨rfl, hk⟩))
    go_ret
    exact ⟨rfl, hb.trans (hk.mono (Nat.le_of_lt hlt))⟩
  all_goals
    rw [decide_eq_false h] at hD
    rw [h2] at hI
    rw [e]; clear e h h2
    go_enter Tryz.func37, Tryz.ntmps37
    go_upto_region 1 with fail
    obtain ⟨hK, hlt, hb⟩ := end_new w i d _ rfl
    generalize (w.alloc (Obj.cells #[Value.int IntKind.i8 i, Value.int IntKind.i64 d] 24)) = W1 at *
    obtain ⟨f0, f1⟩ := id hK.duo
    have HD := Lib.hid (fun X (h : Below W1.heap.size W1 X) => callB hD h)
    have HI := Lib.hid (fun X (h : Below W1.heap.size W1 X) => callB hI h)
    clear hD hI
    go_wp2_with (first
      | (go_at_call 65; ((with_reducible refine (HD.out _ (by go_grown)).mono ?_); rintro e w2 ⟨rfl, hk⟩; obtain ⟨m0, m1⟩ := (hK.below hlt hk).duo))
      | (go_at_call 66; ((with_reducible refine (HI.out _ hk).mono ?_); rintro e w3 ⟨rfl, hk3⟩)))
    go_ret
    exact ⟨rfl, hb.trans (hk3.mono (Nat.le_of_lt hlt))⟩
end Go.Proofs.YtmbaohjekeiphaaGreatDoor
/- The functions of package ends, for the landed code: Compare, Min, Max. -/
namespace Go.Proofs.YtmbaohjekeiphaaGreatDoor
open Go.RowKit

theorem knan8 (a : Int) (w : World) : Calls Tryz.prog 86 #[.int .i8 a] w fun x w' => x = .returned (.bool false) ∧ w = w' := by
  have q : (a != a) = false := by simp
  go_enter Tryz.func86, Tryz.ntmps86
  go_wp2
  go_ret
  exact ⟨rfl, rfl⟩
theorem knan64 (a : Int) (w : World) : Calls Tryz.prog 87 #[.int .i64 a] w fun x w' => x = .returned (.bool false) ∧ w = w' := by
  have q : (a != a) = false := by simp
  go_enter Tryz.func87, Tryz.ntmps87
  go_wp2
  go_ret
  exact ⟨rfl, rfl⟩
/-- How two numbers compare. -/
def cmV (a b : Int) : Int := if a < b then -1 else if b < a then 1 else 0
theorem cmV_cases (a b : Int) : (a < b ∧ cmV a b = -1) ∨ (¬ a < b ∧ b < a ∧ cmV a b = 1) ∨ (¬ a < b ∧ ¬ b < a ∧ cmV a b = 0) := by
  unfold cmV
  by_cases h1 : a < b
  · simp [h1]
  · by_cases h2 : b < a <;> simp [h1, h2]
theorem kcmp8 (a b : Int) (w : World) : Calls Tryz.prog 67 #[.int .i8 a, .int .i8 b] w fun x w' => x = .returned (.int .i64 (cmV a b)) ∧ w = w' := by
  have HN := Lib.hid knan8
  rcases cmV_cases a b with ⟨h1, e⟩ | ⟨h1, h2, e⟩ | ⟨h1, h2, e⟩
  all_goals
    rw [e]; clear e
    go_enter Tryz.func67, Tryz.ntmps67
    go_wp2_with (go_at_call 86; ((with_reducible refine (HN.out _ _).mono ?_); rintro e w2 ⟨rfl, rfl⟩))
    go_ret
    exact ⟨rfl, rfl⟩
theorem kcmp64 (a b : Int) (w : World) : Calls Tryz.prog 68 #[.int .i64 a, .int .i64 b] w fun x w' => x = .returned (.int .i64 (cmV a b)) ∧ w = w' := by
  have HN := Lib.hid knan64
  rcases cmV_cases a b with ⟨h1, e⟩ | ⟨h1, h2, e⟩ | ⟨h1, h2, e⟩
  all_goals
    rw [e]; clear e
    go_enter Tryz.func68, Tryz.ntmps68
    go_wp2_with (go_at_call 87; ((with_reducible refine (HN.out _ _).mono ?_); rintro e w2 ⟨rfl, rfl⟩))
    go_ret
    exact ⟨rfl, rfl⟩
/-- The first one of two numbers that is not 0. -/
def orV (a b : Int) : Int := if a = 0 then b else a
theorem kor_any (g : Nat) (a b : Int) (w : World) (h0 : w.cell? ⟨g, 0, none⟩ = some (.int .i64 a)) (h1 : w.cell? ⟨g, 1, none⟩ = some (.int .i64 b)) :
    Calls Tryz.prog 39 #[.slice (some ⟨g, 0, none⟩) 2 2] w fun x w' => x = .returned (.int .i64 (orV a b)) ∧ w = w' := by
  by_cases ha : a = 0
  · by_cases hb : b = 0
    · subst ha; subst hb
      go_enter Tryz.func39, Tryz.ntmps39
      go_wp2
      refine wp_loop_rounds 3 ?_
      rw [rounds_succ]; go_wp2
      rw [rounds_succ]; go_wp2
      rw [rounds_succ]; go_wp2
      go_ret
      exact ⟨rfl, rfl⟩
    · have q : (b != 0) = true := by simp [hb]
      have e : orV a b = b := if_pos ha
      subst ha
      rw [e]; clear e
      go_enter Tryz.func39, Tryz.ntmps39
      go_wp2
      refine wp_loop_rounds 3 ?_
      rw [rounds_succ]; go_wp2
      rw [rounds_succ]; go_wp2
      go_ret
      exact ⟨rfl, rfl⟩
  · have q : (a != 0) = true := by simp [ha]
    have e : orV a b = a := if_neg ha
    rw [e]; clear e
    go_enter Tryz.func39, Tryz.ntmps39
    go_wp2
    refine wp_loop_rounds 3 ?_
    rw [rounds_succ]; go_wp2
    go_ret
    exact ⟨rfl, rfl⟩
theorem enC_or (i d j e : Int) : enC i d j e = orV (cmV i j) (cmV d e) := by
  unfold enC orV cmV
  by_cases h1 : i < j
  · simp [h1]
  · by_cases h2 : j < i <;> simp [h1, h2]
set_option maxHeartbeats 1000000 in
set_option maxRecDepth 100000 in
theorem kcomp_any (i d j e : Int) (w : World) : Calls Tryz.prog 38 #[E2 i d, E2 j e] w fun x w' => x = .returned (.int .i64 (enC i d j e)) ∧ Below w.heap.size w w' := by
  have q := fun w => end8.eq_any i d j e w
  cases hq : end8.eqE i d j e
  · rw [hq] at q; clear hq
    rw [enC_or]
    have H8 := Lib.hid (fun X => kcmp8 i j X)
    have H64 := Lib.hid (fun X => kcmp64 d e X)
    generalize cmV i j = a at *
    generalize cmV d e = b at *
    generalize hr : orV a b = r
    go_enter Tryz.func38, Tryz.ntmps38
    go_upto_region 1 with fail
    obtain ⟨hK, hL, hs, hb⟩ := two_end w i d j e _ rfl
    generalize ((w.alloc (Obj.cells #[Value.int IntKind.i8 i, Value.int IntKind.i64 d] 24)).alloc (Obj.cells #[Value.int IntKind.i8 j, Value.int IntKind.i64 e] 24)) = W1 at *
    obtain ⟨f0, f1⟩ := id hK.duo
    obtain ⟨l0, l1⟩ := id hL.duo
    have HR : Hid (Calls Tryz.prog 39 #[.slice (some ⟨W1.heap.size, 0, none⟩) 2 2] (W1.alloc (.cells #[.int .i64 a, .int .i64 b] 3)).drew fun x w' => x = .returned (.int .i64 r) ∧ (W1.alloc (.cells #[.int .i64 a, .int .i64 b] 3)).drew = w') := by
      have hX := heap_alloc_new W1.drew (.cells #[.int .i64 a, .int .i64 b] 3)
      rw [← hr]
      exact kor_any _ a b _ (cell_of_row _ _ 0 _ _ _ hX) (cell_of_row _ _ 1 _ _ _ hX)
    have HB := Lib.hid hb
    clear hr hK hL hb hs
    go_wp2_with fail
    clear q
    go_region_held3 (fun x => x.cell? ⟨w.heap.size, 0, none⟩ = some (.int .i8 i) ∧ x.cell? ⟨w.heap.size, 1, none⟩ = some (.int .i64 d) ∧ x.cell? ⟨w.heap.size + 1, 0, none⟩ = some (.int .i8 j) ∧ x.cell? ⟨w.heap.size + 1, 1, none⟩ = some (.int .i64 e)) (go_keep) (first
      | (go_at_call 67; ((with_reducible refine (H8.out _).mono ?_); rintro e w2 ⟨rfl, rfl⟩))
      | (go_at_call 68; ((with_reducible refine (H64.out _).mono ?_); rintro e w2 ⟨rfl, rfl⟩))
      | (go_at_call 39; ((with_reducible refine HR.out.mono ?_); rintro e w2 ⟨rfl, rfl⟩)))
    all_goals
      go_wp2
      go_ret
      exact ⟨rfl, HB.out.trans ((show Below W1.heap.size W1 _ from by go_grown).mono HB.out.size)⟩
  · obtain ⟨rfl, rfl⟩ := end8.eqE_iff.1 hq
    rw [hq] at q; clear hq
    have he : enC i d i d = 0 := by unfold enC; simp
    rw [he]; clear he
    go_enter Tryz.func38, Tryz.ntmps38
    go_upto_region 1 with fail
    obtain ⟨hK, hL, hs, hb⟩ := two_end w i d i d _ rfl
    generalize ((w.alloc (Obj.cells #[Value.int IntKind.i8 i, Value.int IntKind.i64 d] 24)).alloc (Obj.cells #[Value.int IntKind.i8 i, Value.int IntKind.i64 d] 24)) = W1 at *
    obtain ⟨f0, f1⟩ := id hK.duo
    obtain ⟨l0, l1⟩ := id hL.duo
    have HB := Lib.hid hb
    clear hb hK hL
    go_wp2_with fail
    go_ret
    exact ⟨rfl, HB.out⟩

theorem three_end (w : World) (i d j e k f : Int) (W : World) (hW : W = ((w.alloc (.cells #[.int .i8 i, .int .i64 d] 24)).alloc (.cells #[.int .i8 j, .int .i64 e] 24)).alloc (.cells #[.int .i8 k, .int .i64 f] 24)) : BkE W w.heap.size i d ∧ BkE W (w.heap.size + 1) j e ∧ BkE W (w.heap.size + 1 + 1) k f ∧ W.heap.size = w.heap.size + 3 ∧ Below w.heap.size w W := by
  obtain ⟨h1, h2, h3, h4⟩ := two_end w i d j e _ rfl
  generalize ((w.alloc (.cells #[.int .i8 i, .int .i64 d] 24)).alloc (.cells #[.int .i8 j, .int .i64 e] 24)) = X at *
  obtain ⟨k1, k2, k3⟩ := end_new X k f W hW
  refine ⟨h1.below (by omega) k3, h2.below (by omega) k3, by rw [h3] at k1; exact k1, by subst hW; simp [h3], h4.trans (k3.mono (by omega))⟩

/-- The lesser one of two ends, the greater one: its field, by those of both. -/
def mnV (i d j e x y : Int) : Int := if enC i d j e ≤ 0 then x else y
def mxV (i d j e x y : Int) : Int := if 0 ≤ enC i d j e then x else y
set_option maxRecDepth 100000 in
theorem kmin_any (i d j e : Int) (w : World) : Calls Tryz.prog 69 #[E2 i d, E2 j e] w fun x w' => x = .returned (E2 (mnV i d j e i j) (mnV i d j e d e)) ∧ Below w.heap.size w w' := by
  have hC := fun X => kcomp_any i d j e X
  unfold mnV
  generalize enC i d j e = r at *
  by_cases hr : r ≤ 0
  · rw [if_pos hr, if_pos hr]
    go_enter Tryz.func69, Tryz.ntmps69
    go_upto_region 1 with fail
    obtain ⟨hK, hL, hM, hs, hb⟩ := three_end w i d j e 0 0 _ rfl
    generalize (((w.alloc (Obj.cells #[Value.int IntKind.i8 i, Value.int IntKind.i64 d] 24)).alloc (Obj.cells #[Value.int IntKind.i8 j, Value.int IntKind.i64 e] 24)).alloc (Obj.cells #[Value.int IntKind.i8 0, Value.int IntKind.i64 0] 24)) = W1 at *
    obtain ⟨f0, f1⟩ := id hK.duo
    obtain ⟨l0, l1⟩ := id hL.duo
    have HC := Lib.hid (fun X (h : Below W1.heap.size W1 X) => callB hC h)
    clear hC
    go_wp2_with (go_at_call 38; ((with_reducible refine (HC.out _ (by go_grown)).mono ?_); rintro z w2 ⟨rfl, hk⟩; obtain ⟨m0, m1⟩ := (hK.below (by omega) hk).duo; obtain ⟨n0, n1⟩ := (hL.below (by omega) hk).duo; have HM := Lib.hid (hM.below (by omega) hk); obtain ⟨u0, u1⟩ := HM.out.duo; have z0 := HM.out.frozen 0; have z1 := HM.out.frozen 1; have HB := Lib.hid (hb.trans (hk.mono (by omega))); clear hk hK hL hM hs hb))
    exact bodyPost_ret (res_end1 rfl rfl (HM.out.store i d).duo) rfl ⟨rfl, set2_below HB.out (by omega) i d⟩
  · rw [if_neg hr, if_neg hr]
    go_enter Tryz.func69, Tryz.ntmps69
    go_upto_region 1 with fail
    obtain ⟨hK, hL, hM, hs, hb⟩ := three_end w i d j e 0 0 _ rfl
    generalize (((w.alloc (Obj.cells #[Value.int IntKind.i8 i, Value.int IntKind.i64 d] 24)).alloc (Obj.cells #[Value.int IntKind.i8 j, Value.int IntKind.i64 e] 24)).alloc (Obj.cells #[Value.int IntKind.i8 0, Value.int IntKind.i64 0] 24)) = W1 at *
    obtain ⟨f0, f1⟩ := id hK.duo
    obtain ⟨l0, l1⟩ := id hL.duo
    have HC := Lib.hid (fun X (h : Below W1.heap.size W1 X) => callB hC h)
    clear hC
    go_wp2_with (go_at_call 38; ((with_reducible refine (HC.out _ (by go_grown)).mono ?_); rintro z w2 ⟨rfl, hk⟩; obtain ⟨m0, m1⟩ := (hK.below (by omega) hk).duo; obtain ⟨n0, n1⟩ := (hL.below (by omega) hk).duo; have HM := Lib.hid (hM.below (by omega) hk); obtain ⟨u0, u1⟩ := HM.out.duo; have z0 := HM.out.frozen 0; have z1 := HM.out.frozen 1; have HB := Lib.hid (hb.trans (hk.mono (by omega))); clear hk hK hL hM hs hb))
    exact bodyPost_ret (res_end1 rfl rfl (HM.out.store j e).duo) rfl ⟨rfl, set2_below HB.out (by omega) j e⟩
set_option maxRecDepth 100000 in
theorem kmax_any (i d j e : Int) (w : World) : Calls Tryz.prog 70 #[E2 i d, E2 j e] w fun x w' => x = .returned (E2 (mxV i d j e i j) (mxV i d j e d e)) ∧ Below w.heap.size w w' := by
  have hC := fun X => kcomp_any i d j e X
  unfold mxV
  generalize enC i d j e = r at *
  by_cases hr : 0 ≤ r
  · rw [if_pos hr, if_pos hr]
    go_enter Tryz.func70, Tryz.ntmps70
    go_upto_region 1 with fail
    obtain ⟨hK, hL, hM, hs, hb⟩ := three_end w i d j e 0 0 _ rfl
    generalize (((w.alloc (Obj.cells #[Value.int IntKind.i8 i, Value.int IntKind.i64 d] 24)).alloc (Obj.cells #[Value.int IntKind.i8 j, Value.int IntKind.i64 e] 24)).alloc (Obj.cells #[Value.int IntKind.i8 0, Value.int IntKind.i64 0] 24)) = W1 at *
    obtain ⟨f0, f1⟩ := id hK.duo
    obtain ⟨l0, l1⟩ := id hL.duo
    have HC := Lib.hid (fun X (h : Below W1.heap.size W1 X) => callB hC h)
    clear hC
    go_wp2_with (go_at_call 38; ((with_reducible refine (HC.out _ (by go_grown)).mono ?_); rintro z w2 ⟨rfl, hk⟩; obtain ⟨m0, m1⟩ := (hK.below (by omega) hk).duo; obtain ⟨n0, n1⟩ := (hL.below (by omega) hk).duo; have HM := Lib.hid (hM.below (by omega) hk); obtain ⟨u0, u1⟩ := HM.out.duo; have z0 := HM.out.frozen 0; have z1 := HM.out.frozen 1; have HB := Lib.hid (hb.trans (hk.mono (by omega))); clear hk hK hL hM hs hb))
    exact bodyPost_ret (res_end1 rfl rfl (HM.out.store i d).duo) rfl ⟨rfl, set2_below HB.out (by omega) i d⟩
  · rw [if_neg hr, if_neg hr]
    go_enter Tryz.func70, Tryz.ntmps70
    go_upto_region 1 with fail
    obtain ⟨hK, hL, hM, hs, hb⟩ := three_end w i d j e 0 0 _ rfl
    generalize (((w.alloc (Obj.cells #[Value.int IntKind.i8 i, Value.int IntKind.i64 d] 24)).alloc (Obj.cells #[Value.int IntKind.i8 j, Value.int IntKind.i64 e] 24)).alloc (Obj.cells #[Value.int IntKind.i8 0, Value.int IntKind.i64 0] 24)) = W1 at *
    obtain ⟨f0, f1⟩ := id hK.duo
    obtain ⟨l0, l1⟩ := id hL.duo
    have HC := Lib.hid (fun X (h : Below W1.heap.size W1 X) => callB hC h)
    clear hC
    go_wp2_with (go_at_call 38; ((with_reducible refine (HC.out _ (by go_grown)).mono ?_); rintro z w2 ⟨rfl, hk⟩; obtain ⟨m0, m1⟩ := (hK.below (by omega) hk).duo; obtain ⟨n0, n1⟩ := (hL.below (by omega) hk).duo; have HM := Lib.hid (hM.below (by omega) hk); obtain ⟨u0, u1⟩ := HM.out.duo; have z0 := HM.out.frozen 0; have z1 := HM.out.frozen 1; have HB := Lib.hid (hb.trans (hk.mono (by omega))); clear hk hK hL hM hs hb))
    exact bodyPost_ret (res_end1 rfl rfl (HM.out.store j e).duo) rfl ⟨rfl, set2_below HB.out (by omega) j e⟩
end Go.Proofs.YtmbaohjekeiphaaGreatDoor
/- ints.Add and ints.Sub over any world, for texts on the calendar (the portable form; strip.py strikes what a seat does not reach). -/
namespace Go.Proofs.YtmbaohjekeiphaaGreatDoor
open Go.RowKit

/-- What a sum comes to: itself if it is an int64, otherwise 0; and the error. -/
def fitE (n : Int) : Int := if -9223372036854775808 ≤ n ∧ n ≤ 9223372036854775807 then 0 else 15
theorem fitE_in {n : Int} (h : -9223372036854775808 ≤ n) (h' : n ≤ 9223372036854775807) : fitE n = 0 := if_pos ⟨h, h'⟩
theorem fitE_out {n : Int} (h : n < -9223372036854775808 ∨ 9223372036854775807 < n) : fitE n = 15 := if_neg (by omega)

theorem addd_keep (p q a b : Addr) (s x y : Int) (w : World) (hp : w.cell? p = some (.int .i64 s)) (hq : w.cell? q = some (.int .i64 x)) (ha : w.cell? a = some (.int .i64 y)) (h : s < x ↔ y < 0) :
    CallsD Tryz.prog 73 #[.pointer (some p), .pointer (some q), .pointer (some a), .pointer (some b)] .returning w fun e u' w' => u' = .returning ∧ (e = .returned (.tuple #[]) ∧ w' = w) := by
  by_cases h1 : s < x
  · have h2 := h.1 h1
    clear h
    go_enter_d Tryz.func73, Tryz.ntmps73
    go_wp2
    go_end0
    exact ⟨rfl, rfl⟩
  · have h2 : ¬ y < 0 := fun h' => h1 (h.2 h')
    clear h
    go_enter_d Tryz.func73, Tryz.ntmps73
    go_wp2
    go_end0
    exact ⟨rfl, rfl⟩

theorem addd_turn (p q a b : Addr) (s x y z : Int) (w : World) (hp : w.cell? p = some (.int .i64 s)) (hq : w.cell? q = some (.int .i64 x)) (ha : w.cell? a = some (.int .i64 y)) (hb : w.cell? b = some (.int .i64 z))
    (fp : w.frozen? p = false) (fb : w.frozen? b = false) (hpb : b ≠ p) (h : s < x ↔ ¬ y < 0) :
    CallsD Tryz.prog 73 #[.pointer (some p), .pointer (some q), .pointer (some a), .pointer (some b)] .returning w fun e u' w' => u' = .returning ∧ (e = .returned (.tuple #[]) ∧ w' = (w.setCell p (.int .i64 0)).setCell b (.int .i64 15)) := by
  have hb1 := (World.cell?_setCell_other w p b (.int .i64 0) (Ne.symm hpb)).trans hb
  by_cases h1 : s < x
  · have h2 := h.1 h1
    clear h
    go_enter_d Tryz.func73, Tryz.ntmps73
    go_wp2
    go_end0
    exact ⟨rfl, rfl⟩
  · have h2 : y < 0 := by
      by_cases h3 : y < 0
      · exact h3
      · exact absurd (h.2 h3) h1
    clear h
    go_enter_d Tryz.func73, Tryz.ntmps73
    go_wp2
    go_end0
    exact ⟨rfl, rfl⟩

theorem subd_keep (p q a b : Addr) (s x y : Int) (w : World) (hp : w.cell? p = some (.int .i64 s)) (hq : w.cell? q = some (.int .i64 x)) (ha : w.cell? a = some (.int .i64 y)) (h : s < x ↔ 0 < y) :
    CallsD Tryz.prog 72 #[.pointer (some p), .pointer (some q), .pointer (some a), .pointer (some b)] .returning w fun e u' w' => u' = .returning ∧ (e = .returned (.tuple #[]) ∧ w' = w) := by
  by_cases h1 : s < x
  · have h2 := h.1 h1
    clear h
    go_enter_d Tryz.func72, Tryz.ntmps72
    go_wp2
    go_end0
    exact ⟨rfl, rfl⟩
  · have h2 : ¬ 0 < y := fun h' => h1 (h.2 h')
    clear h
    go_enter_d Tryz.func72, Tryz.ntmps72
    go_wp2
    go_end0
    exact ⟨rfl, rfl⟩

theorem subd_turn (p q a b : Addr) (s x y z : Int) (w : World) (hp : w.cell? p = some (.int .i64 s)) (hq : w.cell? q = some (.int .i64 x)) (ha : w.cell? a = some (.int .i64 y)) (hb : w.cell? b = some (.int .i64 z))
    (fp : w.frozen? p = false) (fb : w.frozen? b = false) (hpb : b ≠ p) (h : s < x ↔ ¬ 0 < y) :
    CallsD Tryz.prog 72 #[.pointer (some p), .pointer (some q), .pointer (some a), .pointer (some b)] .returning w fun e u' w' => u' = .returning ∧ (e = .returned (.tuple #[]) ∧ w' = (w.setCell p (.int .i64 0)).setCell b (.int .i64 15)) := by
  have hb1 := (World.cell?_setCell_other w p b (.int .i64 0) (Ne.symm hpb)).trans hb
  by_cases h1 : s < x
  · have h2 := h.1 h1
    clear h
    go_enter_d Tryz.func72, Tryz.ntmps72
    go_wp2
    go_end0
    exact ⟨rfl, rfl⟩
  · have h2 : 0 < y := by
      by_cases h3 : 0 < y
      · exact h3
      · exact absurd (h.2 h3) h1
    clear h
    go_enter_d Tryz.func72, Tryz.ntmps72
    go_wp2
    go_end0
    exact ⟨rfl, rfl⟩

theorem wrap64_over {n : Int} (h : 9223372036854775807 < n) (h' : n < 18446744073709551616) : wrap64 n = n - 18446744073709551616 := by go_arith
theorem wrap64_under {n : Int} (h : n < -9223372036854775808) (h' : -18446744073709551616 ≤ n) : wrap64 n = n + 18446744073709551616 := by go_arith
theorem turn_add {a b : Int} (ha : -9223372036854775808 ≤ a) (ha' : a ≤ 9223372036854775807) (hb : -9223372036854775808 ≤ b) (hb' : b ≤ 9223372036854775807)
    (h : ¬ (-9223372036854775808 ≤ a + b ∧ a + b ≤ 9223372036854775807)) : wrap64 (a + b) < a ↔ ¬ b < 0 := by
  by_cases h0 : 9223372036854775807 < a + b
  · rw [wrap64_over h0 (by omega)]; omega
  · rw [wrap64_under (by omega) (by omega)]; omega
theorem turn_sub {a b : Int} (ha : -9223372036854775808 ≤ a) (ha' : a ≤ 9223372036854775807) (hb : -9223372036854775808 ≤ b) (hb' : b ≤ 9223372036854775807)
    (h : ¬ (-9223372036854775808 ≤ a - b ∧ a - b ≤ 9223372036854775807)) : wrap64 (a - b) < a ↔ ¬ 0 < b := by
  by_cases h0 : 9223372036854775807 < a - b
  · rw [wrap64_over h0 (by omega)]; omega
  · rw [wrap64_under (by omega) (by omega)]; omega

set_option maxHeartbeats 400000 in
theorem add_any (a b : Int) (w : World) (ha : -9223372036854775808 ≤ a) (ha' : a ≤ 9223372036854775807) (hb : -9223372036854775808 ≤ b) (hb' : b ≤ 9223372036854775807) :
    Calls Tryz.prog 49 #[.int .i64 a, .int .i64 b] w fun e w' => e = .returned (.tuple #[.int .i64 (fitV (a + b)), .int .i64 (fitE (a + b))]) ∧ Below w.heap.size w w' := by
  have hmf : ∀ (fn : Fn) (first cap : Array Value) (w : World), (Instr.makeFunc fn first cap).run Tryz.prog w = .ok (.func fn first cap) w := fun _ _ _ _ => rfl
  by_cases h : -9223372036854775808 ≤ a + b ∧ a + b ≤ 9223372036854775807
  · obtain ⟨h1, h2⟩ := h
    go_enter_defers Tryz.func49, Tryz.ntmps49
    go_wp2
    refine leaves_cons (f := 73) (by simp) (by simp [go_sem]; rfl) ?_
    refine (addd_keep _ _ _ _ (a + b) a b _ ?_ ?_ ?_ (by omega)).mono ?_
    · simp [go_sem]
    · simp [go_sem]
    · simp [go_sem]
    rintro e u' w'' ⟨rfl, rfl, rfl⟩
    simp [Leaves, settle, results, Tryz.results49, go_sem, fitV_in h1 h2, fitE_in h1 h2]
    go_grown
  · have ht := turn_add ha ha' hb hb' h
    have hv : fitV (a + b) = 0 := fitV_out (by omega)
    have he : fitE (a + b) = 15 := fitE_out (by omega)
    rw [hv, he]
    clear hv he
    go_enter_defers Tryz.func49, Tryz.ntmps49
    go_wp2
    refine leaves_cons (f := 73) (by simp) (by simp [go_sem]; rfl) ?_
    refine (addd_turn _ _ _ _ (wrap64 (a + b)) a b 0 _ ?_ ?_ ?_ ?_ ?_ ?_ ?_ (by omega)).mono ?_
    · simp [go_sem]
    · simp [go_sem]
    · simp [go_sem]
    · simp [go_sem]
    · simp [go_sem]
    · simp [go_sem]
    · simp
    rintro e u' w'' ⟨rfl, rfl, rfl⟩
    simp [Leaves, settle, results, Tryz.results49, go_sem]
    go_grown
set_option maxHeartbeats 400000 in
theorem sub_any (a b : Int) (w : World) (ha : -9223372036854775808 ≤ a) (ha' : a ≤ 9223372036854775807) (hb : -9223372036854775808 ≤ b) (hb' : b ≤ 9223372036854775807) :
    Calls Tryz.prog 48 #[.int .i64 a, .int .i64 b] w fun e w' => e = .returned (.tuple #[.int .i64 (fitV (a - b)), .int .i64 (fitE (a - b))]) ∧ Below w.heap.size w w' := by
  have hmf : ∀ (fn : Fn) (first cap : Array Value) (w : World), (Instr.makeFunc fn first cap).run Tryz.prog w = .ok (.func fn first cap) w := fun _ _ _ _ => rfl
  by_cases h : -9223372036854775808 ≤ a - b ∧ a - b ≤ 9223372036854775807
  · obtain ⟨h1, h2⟩ := h
    go_enter_defers Tryz.func48, Tryz.ntmps48
    go_wp2
    refine leaves_cons (f := 72) (by simp) (by simp [go_sem]; rfl) ?_
    refine (subd_keep _ _ _ _ (a - b) a b _ ?_ ?_ ?_ (by omega)).mono ?_
    · simp [go_sem]
    · simp [go_sem]
    · simp [go_sem]
    rintro e u' w'' ⟨rfl, rfl, rfl⟩
    simp [Leaves, settle, results, Tryz.results48, go_sem, fitV_in h1 h2, fitE_in h1 h2]
    go_grown
  · have ht := turn_sub ha ha' hb hb' h
    have hv : fitV (a - b) = 0 := fitV_out (by omega)
    have he : fitE (a - b) = 15 := fitE_out (by omega)
    rw [hv, he]
    clear hv he
    go_enter_defers Tryz.func48, Tryz.ntmps48
    go_wp2
    refine leaves_cons (f := 72) (by simp) (by simp [go_sem]; rfl) ?_
    refine (subd_turn _ _ _ _ (wrap64 (a - b)) a b 0 _ ?_ ?_ ?_ ?_ ?_ ?_ ?_ (by omega)).mono ?_
    · simp [go_sem]
    · simp [go_sem]
    · simp [go_sem]
    · simp [go_sem]
    · simp [go_sem]
    · simp [go_sem]
    · simp
    rintro e u' w'' ⟨rfl, rfl, rfl⟩
    simp [Leaves, settle, results, Tryz.results48, go_sem]
    go_grown

end Go.Proofs.YtmbaohjekeiphaaGreatDoor
/- The functions of package ends, for the landed code: moved, Next, Prev. -/
namespace Go.Proofs.YtmbaohjekeiphaaGreatDoor
open Go.RowKit

set_option maxRecDepth 100000 in
theorem kmov_any (i d k a b e : Int) (w : World) (hd : I64 d) (hk : I64 k)
    (h : (infB i d = true ∧ a = i ∧ b = d ∧ e = 0) ∨ (infB i d = false ∧ enE i d = 5 ∧ a = 0 ∧ b = 0 ∧ e = 5) ∨ (infB i d = false ∧ enE i d = 0 ∧ a = 0 ∧ b = fitV (d + k) ∧ e = fitE (d + k))) :
    Calls Tryz.prog 71 #[E2 i d, .int .i64 k] w fun x w' => x = .returned (.tuple #[E2 a b, .int .i64 e]) ∧ Below w.heap.size w w' := by
  have hI := fun X => kinf_any i d X
  have hC := fun X => kchk_any i d X
  have hA := fun X => add_any d k X hd.1 hd.2 hk.1 hk.2
  have hO := fun X => kof_any (fitV (d + k)) X
  clear hd hk
  rcases h with ⟨q, h1, h2, h3⟩ | ⟨q, q2, rfl, rfl, rfl⟩ | ⟨q, q2, rfl, rfl, rfl⟩
  · rw [q] at hI
    rw [h1, h2, h3]
    clear q h1 h2 h3
    go_enter Tryz.func71, Tryz.ntmps71
    go_upto_region 1 with fail
    obtain ⟨hK, hL, hs, hb⟩ := two_end w i d 0 0 _ rfl
    generalize ((w.alloc (Obj.cells #[Value.int IntKind.i8 i, Value.int IntKind.i64 d] 24)).alloc (Obj.cells #[Value.int IntKind.i8 0, Value.int IntKind.i64 0] 24)) = W1 at *
    obtain ⟨f0, f1⟩ := id hK.duo
    have hX := Below.refl W1.heap.size W1
    have HI := Lib.hid (fun X (h : Below W1.heap.size W1 X) => callB hI h)
    have HC := Lib.hid (fun X (h : Below W1.heap.size W1 X) => callB hC h)
    have HA := Lib.hid (fun X (h : Below W1.heap.size W1 X) => callB hA h)
    have HO := Lib.hid (fun X (h : Below W1.heap.size W1 X) => callB hO h)
    clear hI hC hA hO
    go_wp2_with (first
      | (go_at_call 66; ((with_reducible refine (HI.out _ hX).mono ?_); rintro z w2 ⟨rfl, hk⟩; (try clear hX); have hX := hk; (try clear m0 m1 u0 u1 z0 z1 HM HB); obtain ⟨m0, m1⟩ := (hK.below (by omega) hk).duo; have HM := Lib.hid (hL.below (by omega) hk); obtain ⟨u0, u1⟩ := HM.out.duo; have z0 := HM.out.frozen 0; have z1 := HM.out.frozen 1; have HB := Lib.hid (hb.trans (hk.mono (by omega))); clear hk))
      | (go_at_call 37; ((with_reducible refine (HC.out _ hX).mono ?_); rintro z w2 ⟨rfl, hk⟩; (try clear hX); have hX := hk; (try clear m0 m1 u0 u1 z0 z1 HM HB); obtain ⟨m0, m1⟩ := (hK.below (by omega) hk).duo; have HM := Lib.hid (hL.below (by omega) hk); obtain ⟨u0, u1⟩ := HM.out.duo; have z0 := HM.out.frozen 0; have z1 := HM.out.frozen 1; have HB := Lib.hid (hb.trans (hk.mono (by omega))); clear hk))
      | (go_at_call 49; ((with_reducible refine (HA.out _ hX).mono ?_); rintro z w2 ⟨rfl, hk⟩; (try clear hX); have hX := hk; (try clear m0 m1 u0 u1 z0 z1 HM HB); obtain ⟨m0, m1⟩ := (hK.below (by omega) hk).duo; have HM := Lib.hid (hL.below (by omega) hk); obtain ⟨u0, u1⟩ := HM.out.duo; have z0 := HM.out.frozen 0; have z1 := HM.out.frozen 1; have HB := Lib.hid (hb.trans (hk.mono (by omega))); clear hk))
      | (go_at_call 47; ((with_reducible refine (HO.out _ hX).mono ?_); rintro z w2 ⟨rfl, hk⟩; (try clear hX); have hX := hk; (try clear m0 m1 u0 u1 z0 z1 HM HB); obtain ⟨m0, m1⟩ := (hK.below (by omega) hk).duo; have HM := Lib.hid (hL.below (by omega) hk); obtain ⟨u0, u1⟩ := HM.out.duo; have z0 := HM.out.frozen 0; have z1 := HM.out.frozen 1; have HB := Lib.hid (hb.trans (hk.mono (by omega))); clear hk)))
    exact bodyPost_ret (res_end2 rfl rfl rfl (HM.out.store i d).duo) rfl ⟨rfl, set2_below HB.out (by omega) i d⟩
  · rw [q] at hI
    rw [q2] at hC
    clear q q2
    go_enter Tryz.func71, Tryz.ntmps71
    go_upto_region 1 with fail
    obtain ⟨hK, hL, hs, hb⟩ := two_end w i d 0 0 _ rfl
    generalize ((w.alloc (Obj.cells #[Value.int IntKind.i8 i, Value.int IntKind.i64 d] 24)).alloc (Obj.cells #[Value.int IntKind.i8 0, Value.int IntKind.i64 0] 24)) = W1 at *
    obtain ⟨f0, f1⟩ := id hK.duo
    have hX := Below.refl W1.heap.size W1
    have HI := Lib.hid (fun X (h : Below W1.heap.size W1 X) => callB hI h)
    have HC := Lib.hid (fun X (h : Below W1.heap.size W1 X) => callB hC h)
    have HA := Lib.hid (fun X (h : Below W1.heap.size W1 X) => callB hA h)
    have HO := Lib.hid (fun X (h : Below W1.heap.size W1 X) => callB hO h)
    clear hI hC hA hO
    go_wp2_with (first
      | (go_at_call 66; ((with_reducible refine (HI.out _ hX).mono ?_); rintro z w2 ⟨rfl, hk⟩; (try clear hX); have hX := hk; (try clear m0 m1 u0 u1 z0 z1 HM HB); obtain ⟨m0, m1⟩ := (hK.below (by omega) hk).duo; have HM := Lib.hid (hL.below (by omega) hk); obtain ⟨u0, u1⟩ := HM.out.duo; have z0 := HM.out.frozen 0; have z1 := HM.out.frozen 1; have HB := Lib.hid (hb.trans (hk.mono (by omega))); clear hk))
      | (go_at_call 37; ((with_reducible refine (HC.out _ hX).mono ?_); rintro z w2 ⟨rfl, hk⟩; (try clear hX); have hX := hk; (try clear m0 m1 u0 u1 z0 z1 HM HB); obtain ⟨m0, m1⟩ := (hK.below (by omega) hk).duo; have HM := Lib.hid (hL.below (by omega) hk); obtain ⟨u0, u1⟩ := HM.out.duo; have z0 := HM.out.frozen 0; have z1 := HM.out.frozen 1; have HB := Lib.hid (hb.trans (hk.mono (by omega))); clear hk))
      | (go_at_call 49; ((with_reducible refine (HA.out _ hX).mono ?_); rintro z w2 ⟨rfl, hk⟩; (try clear hX); have hX := hk; (try clear m0 m1 u0 u1 z0 z1 HM HB); obtain ⟨m0, m1⟩ := (hK.below (by omega) hk).duo; have HM := Lib.hid (hL.below (by omega) hk); obtain ⟨u0, u1⟩ := HM.out.duo; have z0 := HM.out.frozen 0; have z1 := HM.out.frozen 1; have HB := Lib.hid (hb.trans (hk.mono (by omega))); clear hk))
      | (go_at_call 47; ((with_reducible refine (HO.out _ hX).mono ?_); rintro z w2 ⟨rfl, hk⟩; (try clear hX); have hX := hk; (try clear m0 m1 u0 u1 z0 z1 HM HB); obtain ⟨m0, m1⟩ := (hK.below (by omega) hk).duo; have HM := Lib.hid (hL.below (by omega) hk); obtain ⟨u0, u1⟩ := HM.out.duo; have z0 := HM.out.frozen 0; have z1 := HM.out.frozen 1; have HB := Lib.hid (hb.trans (hk.mono (by omega))); clear hk)))
    exact bodyPost_ret (res_end2 rfl rfl rfl (HM.out.store 0 0).duo) rfl ⟨rfl, set2_below HB.out (by omega) 0 0⟩
  · rw [q] at hI
    rw [q2] at hC
    clear q q2
    generalize fitV (d + k) = b at *
    generalize fitE (d + k) = e at *
    go_enter Tryz.func71, Tryz.ntmps71
    go_upto_region 1 with fail
    obtain ⟨hK, hL, hs, hb⟩ := two_end w i d 0 0 _ rfl
    generalize ((w.alloc (Obj.cells #[Value.int IntKind.i8 i, Value.int IntKind.i64 d] 24)).alloc (Obj.cells #[Value.int IntKind.i8 0, Value.int IntKind.i64 0] 24)) = W1 at *
    obtain ⟨f0, f1⟩ := id hK.duo
    have hX := Below.refl W1.heap.size W1
    have HI := Lib.hid (fun X (h : Below W1.heap.size W1 X) => callB hI h)
    have HC := Lib.hid (fun X (h : Below W1.heap.size W1 X) => callB hC h)
    have HA := Lib.hid (fun X (h : Below W1.heap.size W1 X) => callB hA h)
    have HO := Lib.hid (fun X (h : Below W1.heap.size W1 X) => callB hO h)
    clear hI hC hA hO
    go_wp2_with (first
      | (go_at_call 66; ((with_reducible refine (HI.out _ hX).mono ?_); rintro z w2 ⟨rfl, hk⟩; (try clear hX); have hX := hk; (try clear m0 m1 u0 u1 z0 z1 HM HB); obtain ⟨m0, m1⟩ := (hK.below (by omega) hk).duo; have HM := Lib.hid (hL.below (by omega) hk); obtain ⟨u0, u1⟩ := HM.out.duo; have z0 := HM.out.frozen 0; have z1 := HM.out.frozen 1; have HB := Lib.hid (hb.trans (hk.mono (by omega))); clear hk))
      | (go_at_call 37; ((with_reducible refine (HC.out _ hX).mono ?_); rintro z w2 ⟨rfl, hk⟩; (try clear hX); have hX := hk; (try clear m0 m1 u0 u1 z0 z1 HM HB); obtain ⟨m0, m1⟩ := (hK.below (by omega) hk).duo; have HM := Lib.hid (hL.below (by omega) hk); obtain ⟨u0, u1⟩ := HM.out.duo; have z0 := HM.out.frozen 0; have z1 := HM.out.frozen 1; have HB := Lib.hid (hb.trans (hk.mono (by omega))); clear hk))
      | (go_at_call 49; ((with_reducible refine (HA.out _ hX).mono ?_); rintro z w2 ⟨rfl, hk⟩; (try clear hX); have hX := hk; (try clear m0 m1 u0 u1 z0 z1 HM HB); obtain ⟨m0, m1⟩ := (hK.below (by omega) hk).duo; have HM := Lib.hid (hL.below (by omega) hk); obtain ⟨u0, u1⟩ := HM.out.duo; have z0 := HM.out.frozen 0; have z1 := HM.out.frozen 1; have HB := Lib.hid (hb.trans (hk.mono (by omega))); clear hk))
      | (go_at_call 47; ((with_reducible refine (HO.out _ hX).mono ?_); rintro z w2 ⟨rfl, hk⟩; (try clear hX); have hX := hk; (try clear m0 m1 u0 u1 z0 z1 HM HB); obtain ⟨m0, m1⟩ := (hK.below (by omega) hk).duo; have HM := Lib.hid (hL.below (by omega) hk); obtain ⟨u0, u1⟩ := HM.out.duo; have z0 := HM.out.frozen 0; have z1 := HM.out.frozen 1; have HB := Lib.hid (hb.trans (hk.mono (by omega))); clear hk)))
    exact bodyPost_ret (res_end2 rfl rfl rfl (HM.out.store 0 b).duo) rfl ⟨rfl, set2_below HB.out (by omega) 0 b⟩

set_option maxRecDepth 100000 in
theorem knext_any (i d : Int) (w : World) (hd : I64 d) : Calls Tryz.prog 46 #[E2 i d] w fun x w' => x = .returned (.tuple #[E2 (nxI i d) (nxD i d), .int .i64 (nxE i d)]) ∧ Below w.heap.size w w' := by
  have hM := fun X => kmov_any i d (1) (nxI i d) (nxD i d) (nxE i d) X hd (by constructor <;> decide) (by
    obtain ⟨d0, d1⟩ := hd
    rcases nxE_cases i d with ⟨e, rfl, rfl, q⟩ | ⟨e, rfl, h, q⟩ | ⟨e, rfl, rfl, q⟩ | ⟨e, rfl, rfl, q⟩ | ⟨e, q⟩
    · exact .inr (.inr ⟨rfl, e, q.1, by rw [q.2.1]; decide, by rw [q.2.2]; decide⟩)
    · exact .inr (.inr ⟨by simp [infB], e, q.1, by rw [q.2.1, fitV_in (by omega) (by omega)]; try omega, by rw [q.2.2, fitE_in (by omega) (by omega)]⟩)
    · exact .inl ⟨rfl, q.1, q.2.1, q.2.2⟩
    · exact .inl ⟨rfl, q.1, q.2.1, q.2.2⟩
    · rcases kchk_cases i d with ⟨h, h1⟩ | ⟨h, h2, h1⟩ | ⟨h, h2, h1⟩
      · rw [h1] at e; exact absurd e (by decide)
      · rw [h1] at e; exact absurd e (by decide)
      · exact .inr (.inl ⟨h2, e, q⟩))
  generalize nxI i d = a at *
  generalize nxD i d = b at *
  generalize nxE i d = e at *
  clear hd
  go_enter Tryz.func46, Tryz.ntmps46
  go_upto_region 1 with fail
  obtain ⟨hK, hL, hs, hb⟩ := two_end w i d 0 0 _ rfl
  generalize ((w.alloc (Obj.cells #[Value.int IntKind.i8 i, Value.int IntKind.i64 d] 24)).alloc (Obj.cells #[Value.int IntKind.i8 0, Value.int IntKind.i64 0] 24)) = W1 at *
  obtain ⟨f0, f1⟩ := id hK.duo
  have hX := Below.refl W1.heap.size W1
  have HV := Lib.hid (fun X (h : Below W1.heap.size W1 X) => callB hM h)
  clear hM
  go_wp2_with (go_at_call 71; ((with_reducible refine (HV.out _ hX).mono ?_); rintro z w2 ⟨rfl, hk⟩; (try clear hX); have hX := hk; (try clear m0 m1 u0 u1 z0 z1 HM HB); obtain ⟨m0, m1⟩ := (hK.below (by omega) hk).duo; have HM := Lib.hid (hL.below (by omega) hk); obtain ⟨u0, u1⟩ := HM.out.duo; have z0 := HM.out.frozen 0; have z1 := HM.out.frozen 1; have HB := Lib.hid (hb.trans (hk.mono (by omega))); clear hk))
  exact bodyPost_ret (res_end2 rfl rfl rfl (HM.out.store a b).duo) rfl ⟨rfl, set2_below HB.out (by omega) a b⟩

end Go.Proofs.YtmbaohjekeiphaaGreatDoor
/- The map of the infinities' texts: what each step on it does. -/
namespace Go.Proofs.YtmbaohjekeiphaaGreatDoor
open Go.RowKit

namespace end8
theorem underE : Tryz.prog.underlying 24 = some (.struct (Tryz.prog.fieldsOf 24)) := by kernel_rfl
theorem chk_key (em : Bool) (i d : Int) (w : World) : (Instr.checkKey em 10000 24 (E2 i d)).run Tryz.prog w = .ok () w := by
  have p0 : ∀ (a b : Value) (w : World), (part 22 #[a, b] 0).run Tryz.prog w = .ok a w := fun a b w => partN _ agg8 _ _ _ rfl w
  have p1 : ∀ (a b : Value) (w : World), (part 2 #[a, b] 1).run Tryz.prog w = .ok b w := fun a b w => partN _ agg64 _ _ _ rfl w
  have c0 : ∀ (a : Int) (w : World), (Instr.checkKey em 9999 22 (.int .i8 a)).run Tryz.prog w = .ok () w := fun a w => MapKept.run_checkKey Tryz.underlying22 (by simp [MapKept.IsKey]) em 9998
  have c1 : ∀ (a : Int) (w : World), (Instr.checkKey em 9999 2 (.int .i64 a)).run Tryz.prog w = .ok () w := fun a w => MapKept.run_checkKey Tryz.underlying2 (by simp [MapKept.IsKey]) em 9998
  show (Instr.checkKey em (9999 + 1) 24 (.agg #[.int .i8 i, .int .i64 d])).run Tryz.prog w = .ok () w
  unfold Instr.checkKey
  simp only [Sem.run_bind, run_underlying underE, Result.andThen_ok]
  rw [← Array.forIn_toList, fieldsE]
  simp [fE0, fE1, p0, p1, c0, c1, Sem.run_bind, Result.andThen_ok]
def ent (k : Int) (s : ByteArray) (n : Nat) : MapEntry := ⟨E2 k 0, .string s, n⟩
theorem run_eqE (i d j e : Int) (w : World) : (Op.equal 24 (E2 i d) (E2 j e)).run Tryz.prog w = .ok (i == j && d == e) w := eqI_any 9998 i d j e w
theorem find0 (i d : Int) (w : World) : (Instr.findKey 24 (E2 i d) []).run Tryz.prog w = .ok none w := by
  simp [Instr.findKey, run_underlying underE, Instr.findNow, Result.andThen_ok]
theorem find1 (i d k : Int) (s : ByteArray) (n : Nat) (w : World) : (Instr.findKey 24 (E2 i d) [ent k s n]).run Tryz.prog w = .ok (if (i == k && d == 0) = true then some (0, .string s) else none) w := by
  simp only [Instr.findKey, Sem.run_bind, run_underlying underE, Result.andThen_ok, Instr.findNow, Instr.sameNow, ent, Instr.findAsking, run_eqE]
  cases (i == k && d == 0) <;> rfl
theorem find2 (i d k l : Int) (s t : ByteArray) (n m : Nat) (w : World) : (Instr.findKey 24 (E2 i d) [ent k s n, ent l t m]).run Tryz.prog w = .ok (if (i == k && d == 0) = true then some (0, .string s) else if (i == l && d == 0) = true then some (1, .string t) else none) w := by
  simp only [Instr.findKey, Sem.run_bind, run_underlying underE, Result.andThen_ok, Instr.findNow, Instr.sameNow, ent, Instr.findAsking, run_eqE]
  cases h : (i == k && d == 0) <;> cases h' : (i == l && d == 0) <;> simp [Sem.run_bind, run_eqE, h', Result.andThen_ok]
theorem push_set (h : Array Obj) (x y : Obj) : (h.push x).setIfInBounds h.size y = h.push y := by
  apply Array.toList_inj.1
  simp
theorem ins_first (W : World) (k : Int) (s : ByteArray) :
    (Instr.mapUpdate 107 (.map (some W.heap.size)) (E2 k 0) (.string s)).run Tryz.prog (W.alloc (.map #[] 0)) = .ok () (W.alloc (.map #[ent k s 0] 1)) := by
  simp only [Instr.mapUpdate, Sem.run_bind, run_underlying Tryz.underlying107, Result.andThen_ok, MapKept.run_getObj_map (heap_alloc_new W (.map #[] 0)), chk_key, find0, MapKept.run_setObj_map _ (heap_alloc_new W (.map #[] 0))]
  show Result.ok () ({ W.alloc (.map #[] 0) with heap := (W.heap.push _).setIfInBounds W.heap.size _ } : World) = _
  rw [push_set]
  rfl
theorem ins_second (W : World) (k l : Int) (s t : ByteArray) (hkl : (l == k) = false) :
    (Instr.mapUpdate 107 (.map (some W.heap.size)) (E2 l 0) (.string t)).run Tryz.prog (W.alloc (.map #[ent k s 0] 1)) = .ok () (W.alloc (.map #[ent k s 0, ent l t 1] 2)) := by
  simp only [Instr.mapUpdate, Sem.run_bind, run_underlying Tryz.underlying107, Result.andThen_ok, MapKept.run_getObj_map (heap_alloc_new W (.map #[ent k s 0] 1)), chk_key, find1, hkl, Bool.false_and, Bool.false_eq_true, if_false, MapKept.run_setObj_map _ (heap_alloc_new W (.map #[ent k s 0] 1))]
  show Result.ok () ({ W.alloc (.map #[ent k s 0] 1) with heap := (W.heap.push _).setIfInBounds W.heap.size _ } : World) = _
  rw [push_set]
  rfl
/-- The block of a map that holds just two infinities with their texts. -/
def MapB (X : World) (g : Nat) : Prop := ∃ k l : Int, ∃ s t : ByteArray, (k = -1 ∧ l = 1 ∧ s = ⟨#[45, 105, 110, 102]⟩ ∧ t = ⟨#[105, 110, 102]⟩ ∨ k = 1 ∧ l = -1 ∧ s = ⟨#[105, 110, 102]⟩ ∧ t = ⟨#[45, 105, 110, 102]⟩) ∧ X.heap[g]? = some (.map #[ent k s 0, ent l t 1] 2)
theorem MapB.below {X Y : World} {g B : Nat} (h : MapB X g) (hg : g < B) (hb : Below B X Y) : MapB Y g := by
  obtain ⟨k, l, s, t, h1, h2⟩ := h
  exact ⟨k, l, s, t, h1, (hb.block g hg).trans h2⟩
/-- A look-up. -/
theorem look_any {X : World} {g : Nat} (h : MapB X g) (i d : Int) :
    (Instr.lookup 107 (.map (some g)) (E2 i d) true).run Tryz.prog X = .ok (.tuple #[.string (if i = -1 ∧ d = 0 then ⟨#[45, 105, 110, 102]⟩ else if i = 1 ∧ d = 0 then ⟨#[105, 110, 102]⟩ else ⟨#[]⟩), .bool (decide ((i = -1 ∨ i = 1) ∧ d = 0))]) X := by
  obtain ⟨k, l, s, t, h1, h2⟩ := h
  simp only [Instr.lookup, Sem.run_bind, run_underlying Tryz.underlying107, Result.andThen_ok, MapKept.run_getObj_map h2, Sem.run_pure, chk_key, find2]
  by_cases hd : d = 0
  · rcases h1 with ⟨rfl, rfl, rfl, rfl⟩ | ⟨rfl, rfl, rfl, rfl⟩
    all_goals
      by_cases hi : i = -1
      · subst hi; subst hd; rfl
      · by_cases hj : i = 1
        · subst hj; subst hd; rfl
        · simp [hi, hj, hd, Result.andThen_ok]
  · simp [hd, Result.andThen_ok]
theorem inf_any (w : World) : Calls Tryz.prog 80 #[] w fun x w' => (x = .returned (.map (some w.heap.size)) ∧ MapB w' w.heap.size) ∧ Below w.heap.size w w' ∧ w'.heap.size = w.heap.size + 1 := by
  have h1 : ∀ k s, (Instr.mapUpdate 107 (.map (some w.heap.size)) (.agg #[.int .i8 k, .int .i64 0]) (.string s)).run Tryz.prog ((w.alloc (.map #[] 0)).drew) = .ok () (w.alloc (.map #[ent k s 0] 1)).drew := fun k s => ins_first w.drew k s
  have h2 : (Instr.mapUpdate 107 (.map (some w.heap.size)) (.agg #[.int .i8 1, .int .i64 0]) (.string ⟨#[105, 110, 102]⟩)).run Tryz.prog (w.alloc (.map #[ent (-1) ⟨#[45, 105, 110, 102]⟩ 0] 1)).drew = .ok () (w.alloc (.map #[ent (-1) ⟨#[45, 105, 110, 102]⟩ 0, ent 1 ⟨#[105, 110, 102]⟩ 1] 2)).drew := ins_second w.drew (-1) 1 ⟨#[45, 105, 110, 102]⟩ ⟨#[105, 110, 102]⟩ rfl
  have h3 : (Instr.mapUpdate 107 (.map (some w.heap.size)) (.agg #[.int .i8 (-1), .int .i64 0]) (.string ⟨#[45, 105, 110, 102]⟩)).run Tryz.prog (w.alloc (.map #[ent 1 ⟨#[105, 110, 102]⟩ 0] 1)).drew = .ok () (w.alloc (.map #[ent 1 ⟨#[105, 110, 102]⟩ 0, ent (-1) ⟨#[45, 105, 110, 102]⟩ 1] 2)).drew := ins_second w.drew 1 (-1) ⟨#[105, 110, 102]⟩ ⟨#[45, 105, 110, 102]⟩ rfl
  have hm := @run_makeMap Tryz.prog
  go_enter Tryz.func80, Tryz.ntmps80
  go_wp2
  go_region
  all_goals
    go_wp2
    go_ret
  · exact ⟨⟨rfl, -1, 1, _, _, .inl ⟨rfl, rfl, rfl, rfl⟩, heap_alloc_new w _⟩, by go_grown, by simp⟩
  · exact ⟨⟨rfl, 1, -1, _, _, .inr ⟨rfl, rfl, rfl, rfl⟩, heap_alloc_new w _⟩, by go_grown, by simp⟩
end end8
end Go.Proofs.YtmbaohjekeiphaaGreatDoor
