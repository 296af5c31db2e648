/- The reference's whole numbers in memory: what a slice of digits, and a number, read as; and its small functions. -/
import Derived.Test.YtjgaoajbcbpbbaaDoorQ0
import Derived.Test.YtjgaoajbcbpbbaaDoorDig
import Derived.Deep.CutRange
import Derived.Deep.DeepCutAuto
import Derived.Deep.CutBlock
namespace Go.Proofs.YtjgaoajbcbpbbaaDoor
open Go.RowKit

/-- The slice v reads as the digits ds: its cells are those of a row of bytes, in a block below B. -/
def DS (w : World) (B : Nat) (v : Value) (ds : List Nat) : Prop :=
  ∃ A c, v = .slice A ds.length c ∧ ds.length ≤ c ∧ c ≤ maxLen ∧ (0 < ds.length → ∃ b o cs fr, A = some ⟨b, o, none⟩ ∧ b < B ∧ w.heap[b]? = some (.cells cs 5 fr) ∧ ∀ i, i < ds.length → cs[o + i]? = some (.int .u8 ((ds.getD i 0 : Nat) : Int)))
theorem DS.nil (w : World) (B : Nat) : DS w B (.slice none 0 0) [] := ⟨none, 0, rfl, Nat.le_refl _, Nat.zero_le _, fun h => absurd h (by simp)⟩
theorem DS.nil' (w : World) (B : Nat) (A : Option Addr) {c : Nat} (h : c ≤ maxLen) : DS w B (.slice A 0 c) [] := ⟨A, c, rfl, Nat.zero_le _, h, fun h => absurd h (by simp)⟩
theorem DS.keep {w w' : World} {B B' : Nat} {v : Value} {ds : List Nat} (h : DS w B v ds) (hB : B ≤ B') (hk : ∀ b, b < B → w'.heap[b]? = w.heap[b]?) : DS w' B' v ds := by
  obtain ⟨A, c, hv, hl, hm, hc⟩ := h
  refine ⟨A, c, hv, hl, hm, fun h0 => ?_⟩
  obtain ⟨b, o, cs, fr, ha, hb, hh, hcell⟩ := hc h0
  exact ⟨b, o, cs, fr, ha, by omega, (hk b hb).trans hh, hcell⟩
theorem DS.below {w w' : World} {B : Nat} {v : Value} {ds : List Nat} (h : DS w w.heap.size v ds) (hb : Below B w w') (hB : w.heap.size ≤ B) : DS w' w'.heap.size v ds :=
  h.keep hb.size fun b hb' => hb.block b (by omega)
theorem DS.old {w : World} {B : Nat} {v : Value} {ds : List Nat} (h : DS w B v ds) :
    ∃ A c, v = .slice A ds.length c ∧ ds.length ≤ c ∧ c ≤ maxLen ∧ (0 < ds.length → ∃ b o, A = some ⟨b, o, none⟩ ∧ b < B ∧ ∀ i, i < ds.length → w.cell? ⟨b, o + i, none⟩ = some (.int .u8 ((ds.getD i 0 : Nat) : Int))) := by
  obtain ⟨A, c, hv, hl, hm, hc⟩ := h
  refine ⟨A, c, hv, hl, hm, fun h0 => ?_⟩
  obtain ⟨b, o, cs, fr, ha, hb, hh, hcell⟩ := hc h0
  exact ⟨b, o, ha, hb, fun i hi => by rw [cell_of_row w b (o + i) cs _ fr hh]; exact hcell i hi⟩
theorem DS.take {w : World} {B : Nat} {A : Option Addr} {n c : Nat} {ds : List Nat} (h : DS w B (.slice A n c) ds) {k : Nat} (hk : k ≤ ds.length) : DS w B (.slice A k c) (ds.take k) := by
  obtain ⟨A1, c1, hv, hl, hm, hc⟩ := h
  injection hv with h1 h2 h3
  subst h1 h3
  have hlt : (ds.take k).length = k := by rw [List.length_take]; omega
  refine ⟨A, c, by rw [hlt], by omega, hm, fun h0 => ?_⟩
  obtain ⟨b, o, cs, fr, ha, hb, hh, hcell⟩ := hc (by omega)
  refine ⟨b, o, cs, fr, ha, hb, hh, fun i hi => ?_⟩
  rw [hlt] at hi
  rw [hcell i (by omega), List.getD_eq_getElem?_getD, List.getD_eq_getElem?_getD, List.getElem?_take_of_lt hi]

/-- The number v reads as the sign and the digits. -/
def NR (w : World) (v : Value) (neg : Bool) (ds : List Nat) : Prop := ∃ u, v = .agg #[.bool neg, u] ∧ DS w w.heap.size u ds
theorem NR.below {w w' : World} {v : Value} {neg : Bool} {ds : List Nat} (h : NR w v neg ds) (hb : Below w.heap.size w w') : NR w' v neg ds := by
  obtain ⟨u, hv, hu⟩ := h
  exact ⟨u, hv, hu.below hb (Nat.le_refl _)⟩
/-- The number v is the whole number z. -/
def IsN (w : World) (v : Value) (z : Int) : Prop := ∃ ds, NR w v (decide (z < 0)) ds ∧ dig10 ds ∧ tidy ds ∧ valD ds = z.natAbs
/-- The whole number of a sign and a size. -/
def sgv (neg : Bool) (n : Nat) : Int := if neg then -(n : Int) else n
theorem sgv_abs (neg : Bool) (n : Nat) : (sgv neg n).natAbs = n := by unfold sgv; cases neg <;> simp
theorem sgv_neg (neg : Bool) (n : Nat) (h : n ≠ 0) : decide (sgv neg n < 0) = neg := by unfold sgv; cases neg <;> simp <;> omega
theorem IsN.mk {w : World} {v : Value} {neg : Bool} {ds : List Nat} (h : NR w v neg ds) (hd : dig10 ds) (ht : tidy ds) (hne : ds ≠ []) : IsN w v (sgv neg (valD ds)) := by
  have h0 : valD ds ≠ 0 := fun e => hne ((tidy_zero ht).1 e)
  exact ⟨ds, by rw [sgv_neg _ _ h0]; exact h, hd, ht, by rw [sgv_abs]⟩
theorem IsN.mk0 {w : World} {v : Value} (neg : Bool) (h : NR w v false []) : IsN w v (sgv neg 0) :=
  ⟨[], by have : sgv neg 0 = 0 := by unfold sgv; cases neg <;> rfl
          rw [this]; exact h, dig10_nil, tidy_nil, by rw [sgv_abs]; rfl⟩
theorem IsN.below {w w' : World} {v : Value} {z : Int} (h : IsN w v z) (hb : Below w.heap.size w w') : IsN w' v z := by
  obtain ⟨ds, h1, h2⟩ := h
  exact ⟨ds, h1.below hb, h2⟩

theorem digit_any (v : Value) (ds : List Nat) (k : Nat) (w : World) (h : DS w w.heap.size v ds) (hk : k ≤ 1000000000) (hd : dig10 ds) :
    Calls Tryd.prog 63 #[v, .int .i64 k] w fun e w' => e = .returned (.int .i64 ((ds.getD k 0 : Nat) : Int)) ∧ w = w' := by
  obtain ⟨A, c, rfl, hl, hm, hc⟩ := h.old
  unfold maxLen at hm
  by_cases hlt : k < ds.length
  · obtain ⟨b, o, rfl, hb, hcell⟩ := hc (by omega)
    have hck := hcell k hlt
    have h10 := dig10_at hd k
    generalize ds.getD k 0 = x at *
    clear hcell hc hd
    go_enter Tryd.func63, Tryd.ntmps63
    go_wp2
    go_ret
    exact ⟨rfl, rfl⟩
  · have h0 : ds.getD k 0 = 0 := by rw [List.getD_eq_getElem?_getD, List.getElem?_eq_none (by omega)]; rfl
    rw [h0]
    clear h0 hc hd
    go_enter Tryd.func63, Tryd.ntmps63
    go_wp2
    go_ret
    exact ⟨rfl, rfl⟩

/-- A block that is known whole. -/
def Bk (w : World) (g : Nat) (cs : Array Value) : Prop := w.heap[g]? = some (.cells cs 60 (0, 0))
section
variable {w w' : World} {g : Nat} {cs : Array Value}
theorem Bk.cell (h : Bk w g cs) (i : Nat) : w.cell? ⟨g, i, none⟩ = cs[i]? := cell_of_row w g i cs _ (0, 0) h
theorem Bk.frozen (h : Bk w g cs) (i : Nat) : w.frozen? ⟨g, i, none⟩ = false := by
  unfold Bk at h
  simp [World.frozen?, h]
theorem Bk.lt (h : Bk w g cs) : g < w.heap.size := by
  rcases Nat.lt_or_ge g w.heap.size with h' | h'
  · exact h'
  · unfold Bk at h; rw [Array.getElem?_eq_none h'] at h; cases h
theorem Bk.new (w : World) (cs : Array Value) : Bk (w.alloc (.cells cs 60)) w.heap.size cs := heap_alloc_new w _
theorem Bk.alloc (h : Bk w g cs) (o : Obj) : Bk (w.alloc o) g cs := (Below.heap_alloc w o g h.lt).trans h
theorem Bk.put (h : Bk w g cs) (i : Nat) (u : Value) : Bk (w.setCell ⟨g, i, none⟩ u) g (cs.setIfInBounds i u) := by
  unfold Bk at h ⊢
  simp [World.setCell, Array.getElem?_modify, h]
theorem Bk.far (h : Bk w g cs) {p : Addr} (hp : g ≠ p.block) (u : Value) : Bk (w.setCell p u) g cs := (Below.heap_setCell w p u g hp).trans h
theorem Bk.below {B : Nat} (h : Bk w g cs) (hb : Below B w w') (hg : g < B) : Bk w' g cs := (hb.block g hg).trans h
theorem Bk.drewN (h : Bk w g cs) (n : Nat) : Bk (w.drewN n) g cs := h
theorem Bk.grown {row : Option Nat} (h : Bk w g cs) (hb : w.grownBy w' row) (hg : some g ≠ row) : Bk w' g cs := (hb.block g h.lt hg).trans h
end

theorem DS.put {w : World} {B : Nat} {v : Value} {ds : List Nat} (h : DS w B v ds) {g : Nat} {cs : Array Value} (hg : Bk w g cs) (i : Nat) (u : Value) : DS (w.setCell ⟨g, i, none⟩ u) B v ds := by
  obtain ⟨A, c, hv, hl, hm, hc⟩ := h
  refine ⟨A, c, hv, hl, hm, fun h0 => ?_⟩
  obtain ⟨b, o, cs', fr, ha, hb, hh, hcell⟩ := hc h0
  refine ⟨b, o, cs', fr, ha, hb, (Below.heap_setCell w _ u b ?_).trans hh, hcell⟩
  rintro rfl
  unfold Bk at hg
  rw [hg] at hh
  injection hh with hh
  injection hh with _ ht _
  exact absurd ht (by decide)
theorem NR.put {w : World} {v : Value} {neg : Bool} {ds : List Nat} (h : NR w v neg ds) {g : Nat} {cs : Array Value} (hg : Bk w g cs) (i : Nat) (u : Value) : NR (w.setCell ⟨g, i, none⟩ u) v neg ds := by
  obtain ⟨x, hv, hx⟩ := h
  refine ⟨x, hv, ?_⟩
  have := hx.put hg i u
  simpa [World.setCell] using this
theorem IsN.put {w : World} {v : Value} {z : Int} (h : IsN w v z) {g : Nat} {cs : Array Value} (hg : Bk w g cs) (i : Nat) (u : Value) : IsN (w.setCell ⟨g, i, none⟩ u) v z := by
  obtain ⟨ds, h1, h2⟩ := h
  exact ⟨ds, h1.put hg i u, h2⟩
/-- A whole number's value, written out. -/
theorem IsN.form {w : World} {v : Value} {z : Int} (h : IsN w v z) : ∃ b A n c, v = .agg #[.bool b, .slice A n c] := by
  obtain ⟨ds, ⟨u, rfl, A, c, rfl, _⟩, _⟩ := h
  exact ⟨_, _, _, _, rfl⟩

theorem res_struct {fn : Func} {t : Tmp} {tmps : Array Value} {W : World} {g : Nat} {x y : Value} (h : fn.results = #[.cell t 60]) (ha : tmps[t]?.getD undef = .pointer (some ⟨g, 0, none⟩)) (hb : Bk W g #[x, y]) :
    (results fn tmps).run Tryd.prog W = .ok (.agg #[x, y]) W := by
  have q0 := hb.cell 0
  have q1 := hb.cell 1
  simp at q0 q1
  simp [results, h, go_sem, ha, q0, q1]

set_option maxHeartbeats 400000 in
theorem trim_any (v : Value) (neg : Bool) (ds : List Nat) (w : World) (h : NR w v neg ds) (hd : dig10 ds) (hlen : ds.length ≤ 1000000) :
    Calls Tryd.prog 44 #[v] w fun e w' => ∃ u, e = .returned u ∧ IsN w' u (sgv neg (valD ds)) ∧ Below w.heap.size w w' := by
  obtain ⟨u, rfl, hds⟩ := h
  obtain ⟨A, c, rfl, hl, hm, hc⟩ := hds.old
  have HM := Lib.hid hm
  clear hm
  go_enter Tryd.func44, Tryd.ntmps44
  go_wp2_with fail
  have b0 : Bk ((w.alloc (Obj.cells #[Value.bool neg, Value.slice A ds.length c] 60)).alloc (Obj.cells #[Value.bool false, Value.slice none 0 0] 60)) w.heap.size #[.bool neg, .slice A ds.length c] := (Bk.new _ _).alloc _
  have b1 : Bk ((w.alloc (Obj.cells #[Value.bool neg, Value.slice A ds.length c] 60)).alloc (Obj.cells #[Value.bool false, Value.slice none 0 0] 60)) (w.heap.size + 1) #[.bool false, .slice none 0 0] := by
    have := Bk.new (w.alloc (Obj.cells #[Value.bool neg, Value.slice A ds.length c] 60)) #[Value.bool false, Value.slice none 0 0]
    simpa using this
  have hb : Below w.heap.size w ((w.alloc (Obj.cells #[Value.bool neg, Value.slice A ds.length c] 60)).alloc (Obj.cells #[Value.bool false, Value.slice none 0 0] 60)) := ((Below.refl _ _).alloc (Nat.le_refl _) _).alloc (by simp) _
  generalize (w.alloc (Obj.cells #[Value.bool neg, Value.slice A ds.length c] 60)).alloc (Obj.cells #[Value.bool false, Value.slice none 0 0] 60) = W at *
  go_loopg [] ds.length (fun k wr => k ≤ ds.length ∧ Hid (valD (ds.take k) = valD ds) ∧ Bk wr w.heap.size #[.bool neg, .slice A k c] ∧ Bk wr (w.heap.size + 1) #[.bool false, .slice none 0 0] ∧ Below w.heap.size w wr)
  case atStart => exact ⟨Nat.le_refl _, by rw [List.take_length]; exact rfl, b0, b1, hb⟩
  case round =>
    obtain ⟨hk, hv, r0, r1, hbr⟩ := hrel
    clear b0 b1 hb
    have f0 := r0.cell 0
    have f1 := r0.cell 1
    have f2 := r0.frozen 1
    have f5 := r0.frozen 0
    have f6 := r1.frozen 0
    have f7 := r1.frozen 1
    have f3 := r1.cell 0
    have f4 := r1.cell 1
    simp at f0 f1 f3 f4
    by_cases h0 : gk = 0
    · subst h0
      have HV : Hid (sgv neg (valD ds) = sgv neg 0) := congrArg (sgv neg) hv.out.symm
      clear hc hv
      go_wp2_with fail
      refine bodyPost_ret (res_struct (g := w.heap.size + 1) rfl rfl (by simpa using ((r1.far (p := ⟨w.heap.size, 0, none⟩) (by simp) _).put 0 (.bool false)).put 1 (.slice A 0 c))) rfl ?_
      refine ⟨_, rfl, ?_, ?_⟩
      · rw [HV.out]
        exact IsN.mk0 neg ⟨_, rfl, DS.nil' _ _ _ HM.out⟩
      · go_grown
    · obtain ⟨j, rfl⟩ : ∃ j, gk = j + 1 := ⟨gk - 1, by omega⟩
      obtain ⟨b, o, rfl, hbb, hcell⟩ := hc (by omega)
      have h10 := dig10_at hd j
      have fj := (hbr.cell (p := ⟨b, o + j, none⟩) hbb).trans (hcell j (by omega))
      by_cases hz : ds.getD j 0 = 0
      · have hst := take_strike (ds := ds) (k := j) (by omega) hz
        rw [hz] at fj
        simp at fj
        have HV : Hid (valD (ds.take j) = valD ds) := hst.symm.trans hv.out
        clear hst hz h10 hcell hc hv
        go_wp2_with fail
        go_roundg j
        case rel => exact ⟨by omega, HV, by simpa using r0.put 1 (.slice (some ⟨b, o, none⟩) j c), r1.far (by simp) _, hbr.setCell (Nat.le_refl _) _⟩
        case measure => omega
      · have hti := tidy_take (ds := ds) (k := j) (by omega) hz
        have HT := Lib.hid hti
        have HC := Lib.hid hcell
        have h1 : (((ds.getD j 0 : Nat) : Int) == 0) = false := by rw [beq_eq_false_iff_ne]; omega
        generalize ds.getD j 0 = x at *
        clear hz hcell hc hti
        go_wp2_with fail
        refine bodyPost_ret (res_struct (g := w.heap.size + 1) rfl rfl (by simpa using (r1.put 0 (.bool neg)).put 1 (.slice (some ⟨b, o, none⟩) (j + 1) c))) rfl ?_
        refine ⟨_, rfl, ?_, ?_⟩
        · rw [← hv.out]
          have hlt : (ds.take (j + 1)).length = j + 1 := by rw [List.length_take]; omega
          have hb' : Below w.heap.size w ((wr.setCell ⟨w.heap.size + 1, 0, none⟩ (.bool neg)).setCell ⟨w.heap.size + 1, 1, none⟩ (.slice (some ⟨b, o, none⟩) (j + 1) c)) := by go_grown
          exact IsN.mk (neg := neg) ⟨_, rfl, (hds.take (k := j + 1) hk).keep hb'.size fun b hb => hb'.block b hb⟩ (dig10_take hd _) HT.out (by intro h; rw [h] at hlt; simp at hlt)
        · go_grown
end Go.Proofs.YtjgaoajbcbpbbaaDoor
