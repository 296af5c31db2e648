/- The reference's whole numbers (circaref01), as far as a text of a number needs them: Of and Text. -/
import Derived.Test.YthgnoeigjngniaaMCom
import Derived.Test.YthgnoeigjngniaaDig
namespace Go.Proofs.Ythgnoeigjngniaa
open Go.RowKit

/-- The slice v reads as the digits ds: its cells are those of a row of bytes, in a block below B. -/
def DS (w : World) (B : Nat) (v : Value) (ds : List Nat) : Prop :=
  ∃ A c, v = .slice A ds.length c ∧ ds.length ≤ c ∧ c ≤ maxLen ∧ (0 < ds.length → ∃ b o cs fr, A = some ⟨b, o, none⟩ ∧ b < B ∧ w.heap[b]? = some (.cells cs 5 fr) ∧ ∀ i, i < ds.length → cs[o + i]? = some (.int .u8 ((ds.getD i 0 : Nat) : Int)))
theorem DS.nil (w : World) (B : Nat) : DS w B (.slice none 0 0) [] := ⟨none, 0, rfl, Nat.le_refl _, Nat.zero_le _, fun h => absurd h (by simp)⟩
theorem DS.nil' (w : World) (B : Nat) (A : Option Addr) {c : Nat} (h : c ≤ maxLen) : DS w B (.slice A 0 c) [] := ⟨A, c, rfl, Nat.zero_le _, h, fun h => absurd h (by simp)⟩
theorem DS.keep {w w' : World} {B B' : Nat} {v : Value} {ds : List Nat} (h : DS w B v ds) (hB : B ≤ B') (hk : ∀ b, b < B → w'.heap[b]? = w.heap[b]?) : DS w' B' v ds := by
  obtain ⟨A, c, hv, hl, hm, hc⟩ := h
  refine ⟨A, c, hv, hl, hm, fun h0 => ?_⟩
  obtain ⟨b, o, cs, fr, ha, hb, hh, hcell⟩ := hc h0
  exact ⟨b, o, cs, fr, ha, by omega, (hk b hb).trans hh, hcell⟩
theorem DS.below {w w' : World} {B : Nat} {v : Value} {ds : List Nat} (h : DS w w.heap.size v ds) (hb : Below B w w') (hB : w.heap.size ≤ B) : DS w' w'.heap.size v ds :=
  h.keep hb.size fun b hb' => hb.block b (by omega)
theorem DS.old {w : World} {B : Nat} {v : Value} {ds : List Nat} (h : DS w B v ds) :
    ∃ A c, v = .slice A ds.length c ∧ ds.length ≤ c ∧ c ≤ maxLen ∧ (0 < ds.length → ∃ b o, A = some ⟨b, o, none⟩ ∧ b < B ∧ ∀ i, i < ds.length → w.cell? ⟨b, o + i, none⟩ = some (.int .u8 ((ds.getD i 0 : Nat) : Int))) := by
  obtain ⟨A, c, hv, hl, hm, hc⟩ := h
  refine ⟨A, c, hv, hl, hm, fun h0 => ?_⟩
  obtain ⟨b, o, cs, fr, ha, hb, hh, hcell⟩ := hc h0
  exact ⟨b, o, ha, hb, fun i hi => by rw [cell_of_row w b (o + i) cs _ fr hh]; exact hcell i hi⟩
theorem DS.take {w : World} {B : Nat} {A : Option Addr} {n c : Nat} {ds : List Nat} (h : DS w B (.slice A n c) ds) {k : Nat} (hk : k ≤ ds.length) : DS w B (.slice A k c) (ds.take k) := by
  obtain ⟨A1, c1, hv, hl, hm, hc⟩ := h
  injection hv with h1 h2 h3
  subst h1 h3
  have hlt : (ds.take k).length = k := by rw [List.length_take]; omega
  refine ⟨A, c, by rw [hlt], by omega, hm, fun h0 => ?_⟩
  obtain ⟨b, o, cs, fr, ha, hb, hh, hcell⟩ := hc (by omega)
  refine ⟨b, o, cs, fr, ha, hb, hh, fun i hi => ?_⟩
  rw [hlt] at hi
  rw [hcell i (by omega), List.getD_eq_getElem?_getD, List.getD_eq_getElem?_getD, List.getElem?_take_of_lt hi]

/-- The number v reads as the sign and the digits. -/
def NR (w : World) (v : Value) (neg : Bool) (ds : List Nat) : Prop := ∃ u, v = .agg #[.bool neg, u] ∧ DS w w.heap.size u ds
theorem NR.below {w w' : World} {v : Value} {neg : Bool} {ds : List Nat} (h : NR w v neg ds) (hb : Below w.heap.size w w') : NR w' v neg ds := by
  obtain ⟨u, hv, hu⟩ := h
  exact ⟨u, hv, hu.below hb (Nat.le_refl _)⟩
/-- The number v is the whole number z. -/
def IsN (w : World) (v : Value) (z : Int) : Prop := ∃ ds, NR w v (decide (z < 0)) ds ∧ dig10 ds ∧ tidy ds ∧ valD ds = z.natAbs
/-- The whole number of a sign and a size. -/
def sgv (neg : Bool) (n : Nat) : Int := if neg then -(n : Int) else n
theorem sgv_abs (neg : Bool) (n : Nat) : (sgv neg n).natAbs = n := by unfold sgv; cases neg <;> simp
theorem sgv_neg (neg : Bool) (n : Nat) (h : n ≠ 0) : decide (sgv neg n < 0) = neg := by unfold sgv; cases neg <;> simp <;> omega
theorem IsN.mk {w : World} {v : Value} {neg : Bool} {ds : List Nat} (h : NR w v neg ds) (hd : dig10 ds) (ht : tidy ds) (hne : ds ≠ []) : IsN w v (sgv neg (valD ds)) := by
  have h0 : valD ds ≠ 0 := fun e => hne ((tidy_zero ht).1 e)
  exact ⟨ds, by rw [sgv_neg _ _ h0]; exact h, hd, ht, by rw [sgv_abs]⟩
theorem IsN.mk0 {w : World} {v : Value} (neg : Bool) (h : NR w v false []) : IsN w v (sgv neg 0) :=
  ⟨[], by have : sgv neg 0 = 0 := by unfold sgv; cases neg <;> rfl
          rw [this]; exact h, dig10_nil, tidy_nil, by rw [sgv_abs]; rfl⟩
theorem IsN.below {w w' : World} {v : Value} {z : Int} (h : IsN w v z) (hb : Below w.heap.size w w') : IsN w' v z := by
  obtain ⟨ds, h1, h2⟩ := h
  exact ⟨ds, h1.below hb, h2⟩

/-- A block that is known whole. -/
def Bk (w : World) (g : Nat) (cs : Array Value) : Prop := w.heap[g]? = some (.cells cs 47 (0, 0))
section
variable {w w' : World} {g : Nat} {cs : Array Value}
theorem Bk.cell (h : Bk w g cs) (i : Nat) : w.cell? ⟨g, i, none⟩ = cs[i]? := cell_of_row w g i cs _ (0, 0) h
theorem Bk.frozen (h : Bk w g cs) (i : Nat) : w.frozen? ⟨g, i, none⟩ = false := by
  unfold Bk at h
  simp [World.frozen?, h]
theorem Bk.lt (h : Bk w g cs) : g < w.heap.size := by
  rcases Nat.lt_or_ge g w.heap.size with h' | h'
  · exact h'
  · unfold Bk at h; rw [Array.getElem?_eq_none h'] at h; cases h
theorem Bk.new (w : World) (cs : Array Value) : Bk (w.alloc (.cells cs 47)) w.heap.size cs := heap_alloc_new w _
theorem Bk.alloc (h : Bk w g cs) (o : Obj) : Bk (w.alloc o) g cs := (Below.heap_alloc w o g h.lt).trans h
theorem Bk.put (h : Bk w g cs) (i : Nat) (u : Value) : Bk (w.setCell ⟨g, i, none⟩ u) g (cs.setIfInBounds i u) := by
  unfold Bk at h ⊢
  simp [World.setCell, Array.getElem?_modify, h]
theorem Bk.far (h : Bk w g cs) {p : Addr} (hp : g ≠ p.block) (u : Value) : Bk (w.setCell p u) g cs := (Below.heap_setCell w p u g hp).trans h
theorem Bk.below {B : Nat} (h : Bk w g cs) (hb : Below B w w') (hg : g < B) : Bk w' g cs := (hb.block g hg).trans h
theorem Bk.drewN (h : Bk w g cs) (n : Nat) : Bk (w.drewN n) g cs := h
theorem Bk.grown {row : Option Nat} (h : Bk w g cs) (hb : w.grownBy w' row) (hg : some g ≠ row) : Bk w' g cs := (hb.block g h.lt hg).trans h
end

theorem DS.put {w : World} {B : Nat} {v : Value} {ds : List Nat} (h : DS w B v ds) {g : Nat} {cs : Array Value} (hg : Bk w g cs) (i : Nat) (u : Value) : DS (w.setCell ⟨g, i, none⟩ u) B v ds := by
  obtain ⟨A, c, hv, hl, hm, hc⟩ := h
  refine ⟨A, c, hv, hl, hm, fun h0 => ?_⟩
  obtain ⟨b, o, cs', fr, ha, hb, hh, hcell⟩ := hc h0
  refine ⟨b, o, cs', fr, ha, hb, (Below.heap_setCell w _ u b ?_).trans hh, hcell⟩
  rintro rfl
  unfold Bk at hg
  rw [hg] at hh
  injection hh with hh
  injection hh with _ ht _
  exact absurd ht (by decide)
theorem NR.put {w : World} {v : Value} {neg : Bool} {ds : List Nat} (h : NR w v neg ds) {g : Nat} {cs : Array Value} (hg : Bk w g cs) (i : Nat) (u : Value) : NR (w.setCell ⟨g, i, none⟩ u) v neg ds := by
  obtain ⟨x, hv, hx⟩ := h
  refine ⟨x, hv, ?_⟩
  have := hx.put hg i u
  simpa [World.setCell] using this
theorem IsN.put {w : World} {v : Value} {z : Int} (h : IsN w v z) {g : Nat} {cs : Array Value} (hg : Bk w g cs) (i : Nat) (u : Value) : IsN (w.setCell ⟨g, i, none⟩ u) v z := by
  obtain ⟨ds, h1, h2⟩ := h
  exact ⟨ds, h1.put hg i u, h2⟩
/-- A whole number's value, written out. -/
theorem IsN.form {w : World} {v : Value} {z : Int} (h : IsN w v z) : ∃ b A n c, v = .agg #[.bool b, .slice A n c] := by
  obtain ⟨ds, ⟨u, rfl, A, c, rfl, _⟩, _⟩ := h
  exact ⟨_, _, _, _, rfl⟩

theorem res_struct {fn : Func} {t : Tmp} {tmps : Array Value} {W : World} {g : Nat} {x y : Value} (h : fn.results = #[.cell t 47]) (ha : tmps[t]?.getD undef = .pointer (some ⟨g, 0, none⟩)) (hb : Bk W g #[x, y]) :
    (results fn tmps).run Try.prog W = .ok (.agg #[x, y]) W := by
  have q0 := hb.cell 0
  have q1 := hb.cell 1
  simp at q0 q1
  simp [results, h, go_sem, ha, q0, q1]

def cellsD (ds : List Nat) : List Value := ds.map fun d => Value.int .u8 ((d : Nat) : Int)
theorem cellsD_snoc (ds : List Nat) (d : Nat) : cellsD (ds ++ [d]) = cellsD ds ++ [Value.int .u8 (d : Int)] := by simp [cellsD]
theorem cellsD_len (ds : List Nat) : (cellsD ds).length = ds.length := by simp [cellsD]
theorem DS.of_own {w : World} {base : Nat} {v : Value} {ds : List Nat} (h : w.ownsRow base 5 1 v ds.length (cellsD ds)) : DS w w.heap.size v ds := by
  rcases h.2 with ⟨rfl, h0⟩ | ⟨g, cap, cur, rfl, hg, hh, hn, hc, hs, ht⟩
  · have : ds = [] := List.eq_nil_of_length_eq_zero h0
    subst this; exact DS.nil _ _
  · refine ⟨some ⟨g, 0, none⟩, cap, rfl, hn, hc, fun _ => ⟨g, 0, cur, _, rfl, ?_, hh, fun i hi => ?_⟩⟩
    · rcases Nat.lt_or_ge g w.heap.size with h' | h'
      · exact h'
      · rw [Array.getElem?_eq_none h'] at hh; cases hh
    · rw [Nat.zero_add]
      have h1 : (cur.toList.take (ds.length * 1))[i]? = (cellsD ds)[i]? := by rw [ht]
      rw [List.getElem?_take_of_lt (by omega), Array.getElem?_toList] at h1
      rw [h1]
      simp [cellsD, List.getElem?_map, List.getD_eq_getElem?_getD, List.getElem?_eq_getElem hi]

theorem own_setN {w : World} {base : Nat} {e : TypeId} {size n : Nat} {v : Value} {xs : List Value} (h : w.ownsRow base e size v n xs) {a : Addr} (ha : a.block < base) (u : Value) : (w.setCell a u).ownsRow base e size v n xs := ownsRow_setCell_below h ha u
theorem pow_bound {k m n : Nat} (h : 10 ^ k * m ≤ n) (hm : 1 ≤ m) (hn : n < 10 ^ 19) : k ≤ 18 := by
  rcases Nat.lt_or_ge 18 k with h1 | h1
  · have h2 : 10 ^ 19 ≤ 10 ^ k := Nat.pow_le_pow_right (by omega) h1
    have h3 : 10 ^ k * 1 ≤ 10 ^ k * m := Nat.mul_le_mul_left _ hm
    omega
  · exact h1
/-- One round of Of. -/
theorem of_step {os : List Nat} {m N : Nat} (h : valD os + 10 ^ os.length * m = N) : valD (os ++ [m % 10]) + 10 ^ (os ++ [m % 10]).length * (m / 10) = N := by
  rw [valD_snoc, List.length_append, List.length_cons, List.length_nil, Nat.zero_add, Nat.pow_succ, Nat.mul_assoc, Nat.add_assoc, ← Nat.mul_add]
  rw [← h]
  congr 2
  omega
theorem tidy_snoc {os : List Nat} {d : Nat} (h : d ≠ 0) : tidy (os ++ [d]) := fun x r e => by
  have := (List.append_inj' e rfl).2
  simp only [List.cons.injEq, and_true] at this
  rw [← this]; exact h

/-- What holds of the digits of Of before each round: q is what is left. -/
def OfInv (N : Nat) (neg : Bool) (q : Int) (os : List Nat) : Prop := valD os + 10 ^ os.length * q.natAbs = N ∧ dig10 os ∧ (q = 0 → tidy os) ∧ (q ≠ 0 → decide (q < 0) = neg)

set_option maxHeartbeats 800000 in
theorem of_any (n : Int) (w : World) (h0 : -9223372036854775808 ≤ n) (h1 : n ≤ 9223372036854775807) :
    Calls Try.prog 31 #[.int .i64 n] w fun e w' => ∃ u, e = .returned u ∧ IsN w' u n ∧ Below w.heap.size w w' := by
  obtain ⟨i0, hi, hz0, hz1, hz2⟩ := info_parts infoU8
  go_enter Try.func31, Try.ntmps31
  go_wp2_with fail
  have b0 : Bk ((w.alloc (Obj.cells #[Value.bool false, Value.slice none 0 0] 47)).alloc (Obj.cells #[Value.bool (decide (n < 0)), Value.slice none 0 0] 47)) w.heap.size #[.bool false, .slice none 0 0] := (Bk.new _ _).alloc _
  have b1 : Bk ((w.alloc (Obj.cells #[Value.bool false, Value.slice none 0 0] 47)).alloc (Obj.cells #[Value.bool (decide (n < 0)), Value.slice none 0 0] 47)) (w.heap.size + 1) #[.bool (decide (n < 0)), .slice none 0 0] := by
    have := Bk.new (w.alloc (Obj.cells #[Value.bool false, Value.slice none 0 0] 47)) #[Value.bool (decide (n < 0)), Value.slice none 0 0]
    simpa using this
  have hb : Below w.heap.size w ((w.alloc (Obj.cells #[Value.bool false, Value.slice none 0 0] 47)).alloc (Obj.cells #[Value.bool (decide (n < 0)), Value.slice none 0 0] 47)) := ((Below.refl _ _).alloc (Nat.le_refl _) _).alloc (by simp) _
  have hs : w.heap.size + 2 ≤ ((w.alloc (Obj.cells #[Value.bool false, Value.slice none 0 0] 47)).alloc (Obj.cells #[Value.bool (decide (n < 0)), Value.slice none 0 0] 47)).heap.size := by simp
  generalize (w.alloc (Obj.cells #[Value.bool false, Value.slice none 0 0] 47)).alloc (Obj.cells #[Value.bool (decide (n < 0)), Value.slice none 0 0] 47) = W at *
  generalize hneg : decide (n < 0) = neg at *
  have HN := Lib.hid hneg
  clear hneg
  go_loopw [0] (fun x wr => ∃ (m : Int) (os : List Nat) (v : Value), x = .int .i64 m ∧ -9223372036854775808 ≤ m ∧ m ≤ 9223372036854775807 ∧
      OfInv n.natAbs neg m os ∧
      Bk wr w.heap.size #[.bool false, .slice none 0 0] ∧ Bk wr (w.heap.size + 1) #[.bool neg, v] ∧ wr.ownsRow (w.heap.size + 2) 5 1 v os.length (cellsD os) ∧ w.heap.size + 2 ≤ wr.heap.size ∧ Below w.heap.size w wr)
    (fun x _ => (intOf x).natAbs)
  case atStart => exact ⟨n, [], _, rfl, h0, h1, ⟨by simp [valD], dig10_nil, fun _ => tidy_nil, fun _ => HN.out⟩, b0, b1, World.ownsRow_nil _ _ _ _, hs, hb⟩
  case round =>
    obtain ⟨m, os, v, rfl, hm0, hm1, hm, r0, r1, hown, hs1, hbr⟩ := hrel
    clear b0 b1 hb hs
    have f0 := r0.cell 0
    have f1 := r0.cell 1
    have f2 := r0.frozen 0
    have f3 := r0.frozen 1
    have f4 := r1.cell 0
    have f5 := r1.cell 1
    have f6 := r1.frozen 0
    have f7 := r1.frozen 1
    simp at f0 f1 f4 f5
    by_cases hz : m = 0
    · subst hz
      have hds := DS.of_own hown
      obtain ⟨A, c, rfl, hds1⟩ := id hds
      have HF : Hid (sgv neg (valD os) = n ∧ dig10 os ∧ tidy os ∧ (os = [] → n = 0 ∧ neg = false)) := by
        obtain ⟨e1, e2, e3, _⟩ := hm
        rw [show (0 : Int).natAbs = 0 from rfl, Nat.mul_zero, Nat.add_zero] at e1
        have hn := HN.out
        refine ⟨?_, e2, e3 rfl, ?_⟩
        · unfold sgv; rw [e1, ← hn]; by_cases hx : n < 0 <;> simp [hx] <;> omega
        · rintro rfl
          have : n = 0 := by simp [valD] at e1; omega
          exact ⟨this, by rw [← hn, this]; rfl⟩
      clear hm hds1
      go_wp2_with fail
      refine bodyPost_ret (res_struct (g := w.heap.size) rfl rfl (by simpa using (r0.put 0 (.bool neg)).put 1 (.slice A os.length c))) rfl ?_
      have hbb : Below wr.heap.size wr wr := Below.refl _ _
      refine ⟨_, rfl, ?_, ?_⟩
      · obtain ⟨e1, e2, e3, e4⟩ := HF.out
        have hnr : NR ((wr.setCell ⟨w.heap.size, 0, none⟩ (.bool neg)).setCell ⟨w.heap.size, 1, none⟩ (.slice A os.length c)) (.agg #[.bool neg, .slice A os.length c]) neg os :=
          ⟨_, rfl, DS.of_own (own_setN (own_setN hown (by simp) _) (by simp) _)⟩
        by_cases he : os = []
        · obtain ⟨rfl, rfl⟩ := e4 he
          subst he
          exact IsN.mk0 false hnr
        · rw [← e1]; exact IsN.mk hnr e2 e3 he
      · go_grown
    · obtain ⟨dd, hdd⟩ : ∃ dd, dd = m.natAbs % 10 := ⟨_, rfl⟩
      obtain ⟨qq, hqq⟩ : ∃ qq, qq = m.natAbs / 10 := ⟨_, rfl⟩
      have hd9 : dd ≤ 9 := by omega
      have hlen : os.length ≤ 18 := pow_bound (n := n.natAbs) (m := m.natAbs) (by have := hm.1; omega) (by omega) (by omega)
      have hnz : (m != 0) = true := by rw [bne_iff_ne]; exact hz
      have h3 : (m < 0 ∧ 1 ≤ dd ∧ m.tmod 10 = -(dd : Int) ∧ m.tdiv 10 = -(qq : Int)) ∨ (m < 0 ∧ 0 ≤ dd ∧ m.tmod 10 = dd ∧ m.tdiv 10 = -(qq : Int)) ∨ (0 < m ∧ m.tmod 10 = dd ∧ m.tdiv 10 = qq) := by
        by_cases hp : 0 < m
        · refine .inr (.inr ⟨hp, ?_, ?_⟩)
          · rw [Int.tmod_eq_emod_of_nonneg (by omega)]; omega
          · rw [Int.tdiv_eq_ediv_of_nonneg (by omega)]; omega
        · obtain ⟨p, rfl⟩ : ∃ p : Int, m = -p := ⟨-m, by omega⟩
          have e1 : (-p).tmod 10 = -(dd : Int) := by rw [Int.neg_tmod, Int.tmod_eq_emod_of_nonneg (by omega)]; omega
          have e2 : (-p).tdiv 10 = -(qq : Int) := by rw [Int.neg_tdiv, Int.tdiv_eq_ediv_of_nonneg (by omega)]; omega
          by_cases hd0 : dd = 0
          · exact .inr (.inl ⟨by omega, by omega, by rw [e1, hd0]; rfl, e2⟩)
          · exact .inl ⟨by omega, by omega, e1, e2⟩
      have HH : Hid (dd = m.natAbs % 10 ∧ qq = m.natAbs / 10 ∧ m ≠ 0) := ⟨hdd, hqq, hz⟩
      have hq9 : qq ≤ 922337203685477580 := by omega
      clear hdd hqq hz
      have hne : ∀ g, g < w.heap.size + 2 → some g ≠ v.ownBlock := fun g hg e => by have := (hown.lt g e.symm).1; omega
      have hrow : ∀ k, v.ownBlock = some k → w.heap.size + 2 ≤ k := fun k e => (hown.lt k e).1
      have HQ : Hid (∀ q : Int, (q = qq ∧ 0 < m) ∨ (q = -(qq : Int) ∧ m < 0) → q.natAbs < m.natAbs ∧ -9223372036854775808 ≤ q ∧ q ≤ 9223372036854775807 ∧
          OfInv n.natAbs neg q (os ++ [dd])) := by
        intro q hq
        obtain ⟨e1, e2, e3⟩ := HH.out
        have hqa : q.natAbs = m.natAbs / 10 := by omega
        have hsn : decide (q < 0) = decide (m < 0) ∨ q = 0 := by
          by_cases hq0 : q = 0
          · exact .inr hq0
          · left; rw [decide_eq_decide]; omega
        refine ⟨by omega, by omega, by omega, ?_, dig10_snoc hm.2.1 (by omega), fun h0 => tidy_snoc (by omega), fun h0 => ?_⟩
        · rw [hqa, e1]; exact of_step hm.1
        · rw [← hm.2.2.2 e3]
          rcases hsn with h | h
          · exact h
          · exact absurd h h0
      have HM := Lib.hid hne
      have HW := Lib.hid hrow
      clear hm hne hrow
      rcases h3 with ⟨hsg, hd0, ht, hq⟩ | ⟨hsg, hd0, ht, hq⟩ | ⟨hsg, ht, hq⟩
      all_goals
        have HS := Lib.hid hsg
        clear hsg hm0 hm1 HH
        go_wp2_with (at_builtin; refine wpList_append_own _ rfl _ _ 22 rfl (w.heap.size + 2) 5 i0 (.int .u8 0) 1 1 Try.underlying22 hi hz0 hz1 hz2 rfl (by decide) _ _ _ rfl (hown.alloc _) ⟨wr.heap.size, 0, none⟩ 1 1 [.int .u8 (dd : Int)] rfl rfl ?c1 ?c2 ?c3 ?c4 ?c5 ?_)
        case c1 => exact cell_one_new _ _ _
        case c2 => intro u hu; rw [List.mem_singleton.1 hu]; rfl
        case c3 => unfold maxLen; omega
        case c4 => omega
        case c5 => simp; omega
        intro v' w1 hown1 hg1 _
        rw [← cellsD_snoc] at hown1
        have hlo : (os ++ [dd]).length = os.length + 1 := by simp
        rw [← hlo] at hown1
        have q0 : Bk w1 w.heap.size #[.bool false, .slice none 0 0] := (r0.alloc _).grown hg1 (HM.out _ (by omega))
        have q1 : Bk w1 (w.heap.size + 1) #[.bool neg, v] := (r1.alloc _).grown hg1 (HM.out _ (by omega))
        have hb1 : Below w.heap.size w w1 := (hbr.alloc (by omega) _).grown hg1 (by simp; omega) (fun k hk => by have := HW.out k hk; omega)
        have hs2 : w.heap.size + 2 ≤ w1.heap.size := by have := hg1.size; simp at this; omega
        obtain ⟨A, c, rfl, _⟩ := id (DS.of_own hown1)
        clear hown hg1 r0 r1 hbr f0 f1 f2 f3 f4 f5 f6 f7 hlo hs1
        have f4 := q1.cell 0
        have f5 := q1.cell 1
        have f6 := q1.frozen 0
        have f7 := q1.frozen 1
        simp at f4 f5
        go_wp2_with fail
        obtain ⟨q, hqe, hqm, hq1, hq2, hqh⟩ : ∃ q : Int, ((Value.int .i64 q = .int .i64 (-(qq : Int)) ∧ m < 0) ∨ (Value.int .i64 q = .int .i64 qq ∧ 0 < m)) ∧ q.natAbs < m.natAbs ∧ -9223372036854775808 ≤ q ∧ q ≤ 9223372036854775807 ∧ OfInv n.natAbs neg q (os ++ [dd]) := by
          first
          | exact ⟨-(qq : Int), .inl ⟨rfl, HS.out⟩, HQ.out _ (.inr ⟨rfl, HS.out⟩)⟩
          | exact ⟨qq, .inr ⟨rfl, HS.out⟩, HQ.out _ (.inl ⟨rfl, HS.out⟩)⟩
        have hqv : q = -(qq : Int) ∨ q = qq := by
          rcases hqe with ⟨h, _⟩ | ⟨h, _⟩
          · left; injection h
          · right; injection h
        go_roundw
        case rel =>
          refine ⟨q, os ++ [dd], .slice A (os ++ [dd]).length c, ?_, hq1, hq2, hqh, q0.far (by simp) _, by simpa using q1.put 1 (.slice A (os ++ [dd]).length c), own_setN hown1 (by simp) _, by simpa [World.setCell] using hs2, hb1.setCell (by simp) _⟩
          rcases hqe with ⟨h, hx⟩ | ⟨h, hx⟩
          · first | exact h.symm | (exfalso; have := HS.out; omega)
          · first | exact h.symm | (exfalso; have := HS.out; omega)
        case measure =>
          simp [intOf]
          rcases hqe with ⟨h, hx⟩ | ⟨h, hx⟩
          · injection h with _ h; omega
          · injection h with _ h; omega
theorem DS.len {w : World} {B : Nat} {v : Value} {ds : List Nat} (h : DS w B v ds) : ∃ A c, v = .slice A ds.length c := by
  obtain ⟨A, c, hv, _⟩ := h; exact ⟨A, c, hv⟩
theorem NR.open {w : World} {v : Value} {neg : Bool} {ds : List Nat} (h : NR w v neg ds) : ∃ A c, v = .agg #[.bool neg, .slice A ds.length c] ∧ DS w w.heap.size (.slice A ds.length c) ds := by
  obtain ⟨u, rfl, hu⟩ := h
  obtain ⟨A, c, rfl⟩ := hu.len
  exact ⟨A, c, rfl, hu⟩

def lim : Nat := 10 ^ 200
theorem IsN.len {w : World} {v : Value} {z : Int} (h : IsN w v z) (hz : z.natAbs < lim) : ∃ ds, NR w v (decide (z < 0)) ds ∧ dig10 ds ∧ tidy ds ∧ valD ds = z.natAbs ∧ ds.length ≤ 200 := by
  obtain ⟨ds, h1, h2, h3, h4⟩ := h
  refine ⟨ds, h1, h2, h3, h4, tidy_len h3 ?_⟩
  rw [h4]; exact hz

theorem lim_small : 9223372036854775808 < lim := by unfold lim; decide +kernel
theorem one_new (w : World) (c0 : Array Value) (W : World) (hW : W = w.alloc (.cells c0 47)) : Bk W w.heap.size c0 ∧ Below w.heap.size w W ∧ w.heap.size < W.heap.size := by
  subst hW
  exact ⟨Bk.new w c0, by go_grown, by simp⟩

theorem DS.old_at {w : World} {B : Nat} {A : Option Addr} {n c : Nat} {ds : List Nat} (h : DS w B (.slice A n c) ds) {i : Nat} (hi : i < ds.length) :
    ∃ b o, A = some ⟨b, o, none⟩ ∧ b < B ∧ w.cell? ⟨b, o + i, none⟩ = some (.int .u8 ((ds.getD i 0 : Nat) : Int)) := by
  obtain ⟨A1, c1, hv, _, _, hc⟩ := h.old
  injection hv with h1 h2 h3
  subst h1
  obtain ⟨b, o, ha, hb, hcell⟩ := hc (by omega)
  exact ⟨b, o, ha, hb, hcell i hi⟩

/-- The digits of a number, the least first, as the text has them, the greatest first. -/
theorem decDigits_of {ds : List Nat} (hd : dig10 ds) (ht : tidy ds) (hne : ds ≠ []) : Lib.decDigits (valD ds) = ds.reverse.map fun d => UInt8.ofNat (48 + d) := by
  induction ds with
  | nil => exact absurd rfl hne
  | cons x r ih =>
    have hx := hd x (by simp)
    by_cases hr : r = []
    · subst hr
      rw [show valD [x] = x by simp [valD], Lib.decDigits, dif_pos hx]; rfl
    · have hd' : dig10 r := fun d h => hd d (by simp [h])
      have ht' : tidy r := fun y s h => ht y (x :: s) (by rw [h]; rfl)
      have h0 : valD r ≠ 0 := fun h => hr ((tidy_zero ht').1 h)
      rw [Lib.decDigits, dif_neg (by simp only [valD]; omega)]
      have e1 : valD (x :: r) / 10 = valD r := by simp only [valD]; omega
      have e2 : valD (x :: r) % 10 = x := by simp only [valD]; omega
      rw [e1, e2, ih hd' ht' hr]
      simp
def preB (neg : Bool) : List UInt8 := if neg then [45] else []
def txt (neg : Bool) (ds : List Nat) : List UInt8 := preB neg ++ ds.reverse.map fun d => UInt8.ofNat (48 + d)
theorem itoa_of {z : Int} {ds : List Nat} (hd : dig10 ds) (ht : tidy ds) (hv : valD ds = z.natAbs) (hne : ds ≠ []) : Lib.itoa z = txt (decide (z < 0)) ds := by
  unfold Lib.itoa txt preB
  by_cases h : z < 0
  · rw [if_pos h, ← hv, decDigits_of hd ht hne]; simp [h]
  · rw [if_neg h, show z.toNat = valD ds by omega, decDigits_of hd ht hne]; simp [h]
theorem itoa_zero : Lib.itoa 0 = [48] := by unfold Lib.itoa; rw [if_neg (by omega), show (0 : Int).toNat = 0 from rfl, Lib.decDigits]; rfl

theorem txt_len (neg : Bool) (ds : List Nat) : (txt neg ds).length ≤ ds.length + 1 := by unfold txt preB; cases neg <;> simp
theorem txt_step (neg : Bool) (ds : List Nat) (j : Nat) (hj : j < ds.length) : txt neg (ds.drop j) = txt neg (ds.drop (j + 1)) ++ [UInt8.ofNat (48 + ds.getD j 0)] := by
  unfold txt
  rw [List.drop_eq_getElem_cons hj, List.getD_eq_getElem?_getD, List.getElem?_eq_getElem hj]
  simp only [List.reverse_cons, List.map_append, List.map_cons, List.map_nil, List.append_assoc, Option.getD_some]
theorem u8_48 {d : Nat} (h : d < 10) : ((UInt8.ofNat (48 + d)).toNat : Int) = 48 + d := by
  rw [UInt8.toNat_ofNat', Nat.mod_eq_of_lt (by omega)]; omega
set_option maxRecDepth 100000 in
set_option maxHeartbeats 1600000 in
theorem textR_any (v : Value) (z : Int) (w : World) (hv : IsN w v z) (hz : z.natAbs < lim) :
    Calls Try.prog 30 #[v] w fun e w' => e = .returned (.string ⟨(Lib.itoa z).toArray⟩) ∧ Below w.heap.size w w' := by
  obtain ⟨ds, h1, h2, h3, h4, h5⟩ := hv.len hz
  obtain ⟨A, c, rfl, hA⟩ := h1.open
  by_cases hne : ds = []
  · have hz0 : z = 0 := by rw [hne] at h4; simp [valD] at h4; omega
    subst hz0 hne
    rw [itoa_zero]
    clear hv h1
    go_enter Try.func30, Try.ntmps30
    go_wp2_with fail
    go_ret
    exact ⟨rfl, by go_grown⟩
  · have hl : 0 < ds.length := List.length_pos_iff.2 hne
    rw [itoa_of h2 h3 h4 hne]
    obtain ⟨i0, hi, hz0, hz1, hz2⟩ := info_parts infoU8
    clear hv h1
    generalize decide (z < 0) = neg at *
    go_enter Try.func30, Try.ntmps30
    go_upto_region 4 with fail
    obtain ⟨b0, hb, hs⟩ := one_new w #[Value.bool neg, Value.slice A ds.length c] _ rfl
    have hdW := hA.below hb (Nat.le_refl _)
    obtain ⟨b, o, rfl, hbb, hcell0⟩ := hA.old_at (i := 0) hl
    generalize (w.alloc (Obj.cells #[Value.bool neg, Value.slice (some ⟨b, o, none⟩) ds.length c] 47)) = W at *
    have f0 := b0.cell 0
    have f1 := b0.cell 1
    simp at f0 f1
    have hnz : ((ds.length : Int) == 0) = false := by rw [beq_eq_false_iff_ne]; omega
    clear hcell0
    go_upto_if 10 with fail
    go_cut [3] (fun s3 wx => wx.ownsRow (w.heap.size + 1) 5 1 s3 (txt neg []).length (cellsB (txt neg [])) ∧ Bk wx w.heap.size #[.bool neg, .slice (some ⟨b, o, none⟩) ds.length c] ∧ w.heap.size + 1 ≤ wx.heap.size ∧ Below w.heap.size w wx)
    case first =>
      cases neg
      · go_wp2_with fail
        go_meet
        exact ⟨World.ownsRow_nil _ _ _ _, b0, hs, hb⟩
      · have hown := World.ownsRow_nil W (w.heap.size + 1) 5 1
        go_wp2_with (at_builtin; refine wpList_append_own _ rfl _ _ 22 rfl (w.heap.size + 1) 5 i0 (.int .u8 0) 1 1 Try.underlying22 hi hz0 hz1 hz2 rfl (by decide) _ _ _ rfl (hown.alloc _) ⟨W.heap.size, 0, none⟩ 1 1 [.int .u8 45] rfl rfl ?c1 ?c2 ?c3 ?c4 ?c5 ?_)
        case c1 => exact cell_one_new _ _ _
        case c2 => intro u hu; rw [List.mem_singleton.1 hu]; rfl
        case c3 => unfold maxLen; omega
        case c4 => omega
        case c5 => simp; omega
        intro v' w1 hown1 hg1 _
        go_wp2_with fail
        go_meet
        exact ⟨hown1, (b0.alloc _).grown hg1 (by simp [Value.ownBlock]), by have := hg1.size; simp at this; omega, (hb.alloc (by omega) _).grown hg1 (by simp; omega) (fun k hk => by simp [Value.ownBlock] at hk)⟩
    case rest =>
      obtain ⟨hown, r0, hs1, hbr⟩ := hcut
      clear b0 hb hdW f0 f1 hs
      have f1 := r0.cell 1
      simp at f1
      go_wp2_with fail
      go_loopw [3, 4] (fun s3 iv wr => ∃ k : Nat, k ≤ ds.length ∧ iv = .int .i64 ((k : Int) - 1) ∧ wr.ownsRow (w.heap.size + 1) 5 1 s3 (txt neg (ds.drop k)).length (cellsB (txt neg (ds.drop k))) ∧ Bk wr w.heap.size #[.bool neg, .slice (some ⟨b, o, none⟩) ds.length c] ∧ w.heap.size + 1 ≤ wr.heap.size ∧ Below w.heap.size w wr) (fun _ iv _ => (intOf iv + 1).toNat)
      case atStart => exact ⟨ds.length, Nat.le_refl _, rfl, by rw [List.drop_length]; exact hown, r0, hs1, hbr⟩
      case round =>
        obtain ⟨k, hk, rfl, hown, r0, hs1, hbr⟩ := hrel
        rcases k with _ | j
        · rw [List.drop_zero] at hown
          have hlt : 0 < (txt neg ds).length := by unfold txt; rw [List.length_append, List.length_map, List.length_reverse]; omega
          obtain ⟨A, c, rfl, hconv⟩ := conv_own hown hlt
          generalize hT : txt neg ds = tt at *
          have HT := Lib.hid hT
          clear hown r0 hs1 f1 hT
          go_wp2_with fail
          go_ret
          exact ⟨by rw [HT.out]; rfl, hbr⟩
        · have e1 : (((j + 1 : Nat) : Int) - 1) = (j : Int) := by omega
          rw [e1]
          obtain ⟨b', o', he, hbb', hcell⟩ := hA.old_at (i := j) (by omega)
          injection he with he
          injection he with e2 e3 _
          subst e2 e3
          have fj := (hbr.cell (p := ⟨b, o + j, none⟩) hbb).trans hcell
          have h10 := dig10_at h2 j
          have hstep := txt_step neg ds j (by omega)
          have hlen := txt_len neg (ds.drop (j + 1))
          rw [List.length_drop] at hlen
          have hu := u8_48 h10
          have HS : Hid (txt neg (ds.drop j) = txt neg (ds.drop (j + 1)) ++ [UInt8.ofNat (48 + ds.getD j 0)]) := hstep
          have HU : Hid (((UInt8.ofNat (48 + ds.getD j 0)).toNat : Int) = 48 + ((ds.getD j 0 : Nat) : Int)) := hu
          generalize ds.getD j 0 = x at *
          clear e1 hcell hstep hu f1
          have f1 := r0.cell 1
          simp at f1
          generalize hT : txt neg (ds.drop (j + 1)) = T at *
          have hne : ∀ g, g < w.heap.size + 1 → some g ≠ Value.ownBlock _ := fun g hg e => by have := (hown.lt g e.symm).1; omega
          have hrow : ∀ k, Value.ownBlock _ = some k → w.heap.size + 1 ≤ k := fun k e => (hown.lt k e).1
          have HNE := Lib.hid hne
          have HRO := Lib.hid hrow
          have HT := Lib.hid hT
          clear hne hrow hT
          go_wp2_with (at_builtin; refine wpList_append_own _ rfl _ _ 22 rfl (w.heap.size + 1) 5 i0 (.int .u8 0) 1 1 Try.underlying22 hi hz0 hz1 hz2 rfl (by decide) _ _ _ rfl (hown.alloc _) ⟨wr.heap.size, 0, none⟩ 1 1 [.int .u8 (48 + (x : Int))] rfl rfl ?d1 ?d2 ?d3 ?d4 ?d5 ?_)
          try (case d1 => exact cell_one_new _ _ _)
          case d2 => first | rfl | (intro u hu; rw [List.mem_singleton.1 hu]; rfl)
          case d3 => unfold maxLen; omega
          case d4 => omega
          case d5 => first | omega | (simp; omega)
          intro v' w1 hown1 hg1 _
          rw [← HU.out, ← cellsB_snoc, ← HS.out] at hown1
          have hl2 : (txt neg (ds.drop j)).length = T.length + 1 := by rw [HS.out]; simp
          rw [← hl2] at hown1
          have q0 := (r0.alloc _).grown hg1 (HNE.out _ (by omega))
          have hb1 : Below w.heap.size w w1 := (hbr.alloc (by omega) _).grown hg1 (by simp; omega) (fun k hk => by have := HRO.out k hk; omega)
          have hs2 : w.heap.size + 1 ≤ w1.heap.size := by have := hg1.size; simp at this; omega
          clear hown hg1 r0 hbr hs1 f1 fj
          go_wp2_with fail
          go_roundw
          case rel => exact ⟨j, by omega, rfl, hown1, q0, hs2, hb1⟩
          case measure => simp [intOf]
end Go.Proofs.Ythgnoeigjngniaa
