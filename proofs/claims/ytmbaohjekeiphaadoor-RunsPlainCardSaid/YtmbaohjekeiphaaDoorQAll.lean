/- Digits, the least first, as1 lists of numbers: what they come to, and how that turns when a digit is laid behind them or struck. No program. -/
import Derived.Test.YtmbaohjekeiphaaDoorQ0
import Derived.Deep.CutRange
import Derived.Deep.DeepCutAuto
import Derived.Deep.CutBlock
import Derived.Deep.QuietTactic
import Derived.BigQuiet
import Derived.Deep.RegionHeld3
import Derived.Deep.RegionLaw
import Derived.Deep.AppendLies
namespace Go.Proofs.YtmbaohjekeiphaaDoor

def valD : List Nat → Nat
  | [] => 0
  | d :: r => d + 10 * valD r
def dig10 (ds : List Nat) : Prop := ∀ d ∈ ds, d < 10
theorem dig10_nil : dig10 [] := fun d hd => by cases hd
theorem dig10_snoc {ds : List Nat} (h : dig10 ds) {d : Nat} (hd : d < 10) : dig10 (ds ++ [d]) := fun x hx => by
  rcases List.mem_append.1 hx with h1 | h1
  · exact h x h1
  · rw [List.mem_singleton.1 h1]; exact hd
theorem dig10_take {ds : List Nat} (h : dig10 ds) (k : Nat) : dig10 (ds.take k) := fun x hx => h x (List.mem_of_mem_take hx)
theorem dig10_at {ds : List Nat} (h : dig10 ds) (k : Nat) : ds.getD k 0 < 10 := by
  rw [List.getD_eq_getElem?_getD]
  cases hk : ds[k]? with
  | none => simp
  | some x => simp; exact h x (List.mem_of_getElem? hk)
theorem valD_snoc (ds : List Nat) (d : Nat) : valD (ds ++ [d]) = valD ds + 10 ^ ds.length * d := by
  induction ds with
  | nil => simp [valD]
  | cons x r ih =>
    simp only [List.cons_append, valD, ih, List.length_cons, Nat.pow_succ, Nat.mul_add]
    have : 10 * (10 ^ r.length * d) = 10 ^ r.length * 10 * d := by rw [← Nat.mul_assoc, Nat.mul_comm 10]
    omega
theorem valD_lt {ds : List Nat} (h : dig10 ds) : valD ds < 10 ^ ds.length := by
  induction ds with
  | nil => simp [valD]
  | cons x r ih =>
    have h1 := h x (by simp)
    have h2 := ih fun d hd => h d (by simp [hd])
    simp only [valD, List.length_cons, Nat.pow_succ]
    omega
/-- What stands from place k on: its first digit, and ten times what stands behind. -/
theorem valD_drop (ds : List Nat) (k : Nat) : valD (ds.drop k) = ds.getD k 0 + 10 * valD (ds.drop (k + 1)) := by
  by_cases hk : k < ds.length
  · rw [List.drop_eq_getElem_cons hk, valD, List.getD_eq_getElem?_getD, List.getElem?_eq_getElem hk]; rfl
  · rw [List.drop_of_length_le (by omega), List.drop_of_length_le (by omega), List.getD_eq_getElem?_getD, List.getElem?_eq_none (by omega)]; rfl
theorem valD_zero {ds : List Nat} (h : ds.all (· == 0) = true) : valD ds = 0 := by
  induction ds with
  | nil => rfl
  | cons x r ih =>
    simp only [List.all_cons, Bool.and_eq_true, beq_iff_eq] at h
    simp only [valD, ih h.2, h.1]
/-- No zero at the end. -/
def tidy (ds : List Nat) : Prop := ∀ x r, ds = r ++ [x] → x ≠ 0
theorem tidy_nil : tidy [] := fun x r h => by simp at h
theorem tidy_lo {ds : List Nat} (ht : tidy ds) (hne : ds ≠ []) : 10 ^ (ds.length - 1) ≤ valD ds := by
  obtain ⟨r, x, rfl⟩ : ∃ r x, ds = r ++ [x] := ⟨ds.dropLast, ds.getLast hne, (List.dropLast_concat_getLast hne).symm⟩
  have := ht x r rfl
  rw [valD_snoc, List.length_append]
  simp only [List.length_cons, List.length_nil, Nat.zero_add, Nat.add_sub_cancel]
  have h1 : 10 ^ r.length * 1 ≤ 10 ^ r.length * x := Nat.mul_le_mul_left _ (by omega)
  omega
theorem tidy_zero {ds : List Nat} (ht : tidy ds) : valD ds = 0 ↔ ds = [] := by
  constructor
  · intro h
    by_cases hne : ds = []
    · exact hne
    · have h1 := tidy_lo ht hne
      have h2 : 0 < 10 ^ (ds.length - 1) := Nat.pow_pos (by omega)
      omega
  · rintro rfl; rfl
theorem tidy_len {ds : List Nat} (ht : tidy ds) {k : Nat} (h : valD ds < 10 ^ k) : ds.length ≤ k := by
  by_cases hne : ds = []
  · subst hne; simp
  · have h1 := tidy_lo ht hne
    rcases Nat.lt_or_ge k ds.length with h2 | h2
    · have h3 : 10 ^ k ≤ 10 ^ (ds.length - 1) := Nat.pow_le_pow_right (by omega) (by omega)
      omega
    · exact h2
/-- More digits, the greater number. -/
theorem valD_longer {as1 bs : List Nat} (ha : dig10 as1) (hb : tidy bs) (h : as1.length < bs.length) : valD as1 < valD bs := by
  have h1 := valD_lt ha
  have h2 := tidy_lo hb (by intro e; subst e; simp at h)
  have h3 : 10 ^ as1.length ≤ 10 ^ (bs.length - 1) := Nat.pow_le_pow_right (by omega) (by omega)
  omega
/-- The digits up to place k, and what stands from there on. -/
theorem valD_split (ds : List Nat) (k : Nat) (hk : k ≤ ds.length) : valD ds = valD (ds.take k) + 10 ^ k * valD (ds.drop k) := by
  induction k with
  | zero => simp [valD]
  | succ k ih =>
    rw [ih (by omega), List.take_succ_eq_append_getElem (by omega), valD_snoc, List.length_take, Nat.min_eq_left (by omega), valD_drop ds k, Nat.pow_succ, List.getD_eq_getElem?_getD, List.getElem?_eq_getElem (by omega)]
    simp only [Option.getD_some, Nat.mul_add]
    have : 10 ^ k * (10 * valD (ds.drop (k + 1))) = 10 ^ k * 10 * valD (ds.drop (k + 1)) := by rw [Nat.mul_assoc]
    omega
theorem take_strike {ds : List Nat} {k : Nat} (hk : k < ds.length) (h0 : ds.getD k 0 = 0) : valD (ds.take (k + 1)) = valD (ds.take k) := by
  rw [List.take_succ_eq_append_getElem hk, valD_snoc]
  have : ds[k] = 0 := by rw [List.getD_eq_getElem?_getD, List.getElem?_eq_getElem hk] at h0; simpa using h0
  rw [this, Nat.mul_zero, Nat.add_zero]
theorem tidy_take {ds : List Nat} {k : Nat} (hk : k < ds.length) (h0 : ds.getD k 0 ≠ 0) : tidy (ds.take (k + 1)) := fun x r h => by
  rw [List.take_succ_eq_append_getElem hk] at h
  have := (List.append_inj' h rfl).2
  simp only [List.cons.injEq, and_true] at this
  rw [List.getD_eq_getElem?_getD, List.getElem?_eq_getElem hk] at h0
  rw [← this]; simpa using h0
/-- Two rows that are alike above place k: their order is that of their digits there. -/
theorem less_at {as1 bs : List Nat} (ha : dig10 as1) (hb : dig10 bs) {k : Nat} (hka : k < as1.length) (hkb : k < bs.length) (hd : valD (as1.drop (k + 1)) = valD (bs.drop (k + 1))) (hne : as1.getD k 0 ≠ bs.getD k 0) :
    valD as1 < valD bs ↔ as1.getD k 0 < bs.getD k 0 := by
  rw [valD_split as1 k (by omega), valD_split bs k (by omega), valD_drop as1 k, valD_drop bs k, hd]
  have h1 := valD_lt (dig10_take ha k)
  have h2 := valD_lt (dig10_take hb k)
  rw [List.length_take, Nat.min_eq_left (by omega)] at h1 h2
  generalize valD (as1.take k) = p at *
  generalize valD (bs.take k) = q at *
  generalize valD (bs.drop (k + 1)) = R at *
  generalize as1.getD k 0 = x at *
  generalize bs.getD k 0 = y at *
  generalize 10 ^ k = P at *
  constructor
  · intro h
    rcases Nat.lt_or_ge x y with h3 | h3
    · exact h3
    · have h4 : P * (y + 1 + 10 * R) ≤ P * (x + 10 * R) := Nat.mul_le_mul_left _ (by omega)
      rw [show y + 1 + 10 * R = (y + 10 * R) + 1 by omega, Nat.mul_add, Nat.mul_one] at h4
      omega
  · intro h
    have h4 : P * (x + 1 + 10 * R) ≤ P * (y + 10 * R) := Nat.mul_le_mul_left _ (by omega)
    rw [show x + 1 + 10 * R = (x + 10 * R) + 1 by omega, Nat.mul_add, Nat.mul_one] at h4
    omega
theorem drop_at {as1 bs : List Nat} {k : Nat} (hd : valD (as1.drop (k + 1)) = valD (bs.drop (k + 1))) (he : as1.getD k 0 = bs.getD k 0) : valD (as1.drop k) = valD (bs.drop k) := by
  rw [valD_drop as1 k, valD_drop bs k, hd, he]
theorem drop_le (ds : List Nat) (k : Nat) (hk : k ≤ ds.length) : valD (ds.drop k) ≤ valD ds := by
  rw [valD_split ds k hk]
  have h1 : 1 * valD (ds.drop k) ≤ 10 ^ k * valD (ds.drop k) := Nat.mul_le_mul_right _ (Nat.pow_pos (by omega))
  omega
theorem valD_set (ds : List Nat) (d : Nat) : ∀ j, j < ds.length → valD (ds.set j d) + 10 ^ j * ds.getD j 0 = valD ds + 10 ^ j * d := by
  induction ds with
  | nil => intro j h; simp at h
  | cons x r ih =>
    intro j h
    rcases j with _ | j
    · simp [valD]; omega
    · have h1 := ih j (by simpa using h)
      simp only [List.set_cons_succ, valD, List.getD_cons_succ, Nat.pow_succ]
      have e1 : 10 ^ j * 10 * r.getD j 0 = 10 * (10 ^ j * r.getD j 0) := by rw [Nat.mul_right_comm, Nat.mul_comm]
      have e2 : 10 ^ j * 10 * d = 10 * (10 ^ j * d) := by rw [Nat.mul_right_comm, Nat.mul_comm]
      rw [e1, e2]
      omega
theorem dig10_set {ds : List Nat} (h : dig10 ds) {j d : Nat} (hd : d < 10) : dig10 (ds.set j d) := fun x hx => by
  rcases List.mem_or_eq_of_mem_set hx with h1 | h1
  · exact h x h1
  · rw [h1]; exact hd
theorem valD_take_succ (ds : List Nat) (k : Nat) : valD (ds.take (k + 1)) = valD (ds.take k) + 10 ^ k * ds.getD k 0 := by
  by_cases hk : k < ds.length
  · rw [List.take_succ_eq_append_getElem hk, valD_snoc, List.length_take, Nat.min_eq_left (by omega), List.getD_eq_getElem?_getD, List.getElem?_eq_getElem hk]; rfl
  · rw [List.take_of_length_le (by omega), List.take_of_length_le (by omega), List.getD_eq_getElem?_getD, List.getElem?_eq_none (by omega)]; simp
theorem getD_set_same (ds : List Nat) (j d : Nat) (h : j < ds.length) : (ds.set j d).getD j 0 = d := by
  rw [List.getD_eq_getElem?_getD, List.getElem?_set_self h]; rfl
theorem getD_set_other (ds : List Nat) {j k : Nat} (d : Nat) (h : j ≠ k) : (ds.set j d).getD k 0 = ds.getD k 0 := by
  rw [List.getD_eq_getElem?_getD, List.getD_eq_getElem?_getD, List.getElem?_set_ne h]
/-- One step of the product on paper: P is 10 to the i, R to the k. -/
theorem mul_step {o o' P R x y c c' d z V T s : Nat} (h : o + P * R * c = V + P * (x * T)) (hset : o' + P * R * z = o + P * R * d) (hs : s = z + x * y + c) (hd : d = s % 10) (hc : c' = s / 10) :
    o' + P * (R * 10) * c' = V + P * (x * (T + R * y)) := by
  have e1 : P * (R * 10) * c' = P * R * (10 * c') := by rw [← Nat.mul_assoc P R 10, Nat.mul_assoc (P * R)]
  have e2 : P * (x * (T + R * y)) = P * (x * T) + P * R * (x * y) := by
    rw [Nat.mul_add, Nat.mul_add, Nat.mul_left_comm x R y, ← Nat.mul_assoc P R]
  rw [e1, e2]
  have e3 : d + 10 * c' = z + x * y + c := by omega
  have e4 : P * R * (d + 10 * c') = P * R * (z + x * y + c) := by rw [e3]
  simp only [Nat.mul_add] at e4
  omega
/-- One step of the sum on paper: P is the place's power. -/
theorem sum_step {P o A B x y c V s : Nat} (h : o + P * (c + (x + 10 * A) + (y + 10 * B)) = V) (hs : s = x + y + c) : (o + P * (s % 10)) + P * 10 * (s / 10 + A + B) = V := by
  subst hs h
  have e : P * 10 * ((x + y + c) / 10 + A + B) = P * (10 * ((x + y + c) / 10 + A + B)) := Nat.mul_assoc _ _ _
  rw [e, Nat.add_assoc, ← Nat.mul_add]
  congr 2
  omega
end Go.Proofs.YtmbaohjekeiphaaDoor
/- The reference's whole numbers in memory: what a slice of digits, and a number, read as1; and its small functions. -/
namespace Go.Proofs.YtmbaohjekeiphaaDoor
open Go.RowKit

/-- The slice v reads as the digits ds: its cells are those of a row of bytes, in a block below B. -/
def DS (w : World) (B : Nat) (v : Value) (ds : List Nat) : Prop :=
  ∃ A c, v = .slice A ds.length c ∧ ds.length ≤ c ∧ c ≤ maxLen ∧ (0 < ds.length → ∃ b o cs fr, A = some ⟨b, o, none⟩ ∧ b < B ∧ w.heap[b]? = some (.cells cs 5 fr) ∧ ∀ i, i < ds.length → cs[o + i]? = some (.int .u8 ((ds.getD i 0 : Nat) : Int)))
theorem DS.nil (w : World) (B : Nat) : DS w B (.slice none 0 0) [] := ⟨none, 0, rfl, Nat.le_refl _, Nat.zero_le _, fun h => absurd h (by simp)⟩
theorem DS.nil' (w : World) (B : Nat) (A : Option Addr) {c : Nat} (h : c ≤ maxLen) : DS w B (.slice A 0 c) [] := ⟨A, c, rfl, Nat.zero_le _, h, fun h => absurd h (by simp)⟩
theorem DS.keep {w w' : World} {B B' : Nat} {v : Value} {ds : List Nat} (h : DS w B v ds) (hB : B ≤ B') (hk : ∀ b, b < B → w'.heap[b]? = w.heap[b]?) : DS w' B' v ds := by
  obtain ⟨A, c, hv, hl, hm, hc⟩ := h
  refine ⟨A, c, hv, hl, hm, fun h0 => ?_⟩
  obtain ⟨b, o, cs, fr, ha, hb, hh, hcell⟩ := hc h0
  exact ⟨b, o, cs, fr, ha, by omega, (hk b hb).trans hh, hcell⟩
theorem DS.below {w w' : World} {B : Nat} {v : Value} {ds : List Nat} (h : DS w w.heap.size v ds) (hb : Below B w w') (hB : w.heap.size ≤ B) : DS w' w'.heap.size v ds :=
  h.keep hb.size fun b hb' => hb.block b (by omega)
theorem DS.old {w : World} {B : Nat} {v : Value} {ds : List Nat} (h : DS w B v ds) :
    ∃ A c, v = .slice A ds.length c ∧ ds.length ≤ c ∧ c ≤ maxLen ∧ (0 < ds.length → ∃ b o, A = some ⟨b, o, none⟩ ∧ b < B ∧ ∀ i, i < ds.length → w.cell? ⟨b, o + i, none⟩ = some (.int .u8 ((ds.getD i 0 : Nat) : Int))) := by
  obtain ⟨A, c, hv, hl, hm, hc⟩ := h
  refine ⟨A, c, hv, hl, hm, fun h0 => ?_⟩
  obtain ⟨b, o, cs, fr, ha, hb, hh, hcell⟩ := hc h0
  exact ⟨b, o, ha, hb, fun i hi => by rw [cell_of_row w b (o + i) cs _ fr hh]; exact hcell i hi⟩
theorem DS.take {w : World} {B : Nat} {A : Option Addr} {n c : Nat} {ds : List Nat} (h : DS w B (.slice A n c) ds) {k : Nat} (hk : k ≤ ds.length) : DS w B (.slice A k c) (ds.take k) := by
  obtain ⟨A1, c1, hv, hl, hm, hc⟩ := h
  injection hv with h1 h2 h3
  subst h1 h3
  have hlt : (ds.take k).length = k := by rw [List.length_take]; omega
  refine ⟨A, c, by rw [hlt], by omega, hm, fun h0 => ?_⟩
  obtain ⟨b, o, cs, fr, ha, hb, hh, hcell⟩ := hc (by omega)
  refine ⟨b, o, cs, fr, ha, hb, hh, fun i hi => ?_⟩
  rw [hlt] at hi
  rw [hcell i (by omega), List.getD_eq_getElem?_getD, List.getD_eq_getElem?_getD, List.getElem?_take_of_lt hi]

/-- The number v reads as the sign and the digits. -/
def NR (w : World) (v : Value) (neg : Bool) (ds : List Nat) : Prop := ∃ u, v = .agg #[.bool neg, u] ∧ DS w w.heap.size u ds
theorem NR.below {w w' : World} {v : Value} {neg : Bool} {ds : List Nat} (h : NR w v neg ds) (hb : Below w.heap.size w w') : NR w' v neg ds := by
  obtain ⟨u, hv, hu⟩ := h
  exact ⟨u, hv, hu.below hb (Nat.le_refl _)⟩
/-- The number v is the whole number z. -/
def IsN (w : World) (v : Value) (z : Int) : Prop := ∃ ds, NR w v (decide (z < 0)) ds ∧ dig10 ds ∧ tidy ds ∧ valD ds = z.natAbs
/-- The whole number of a sign and a size. -/
def sgv (neg : Bool) (n : Nat) : Int := if neg then -(n : Int) else n
theorem sgv_abs (neg : Bool) (n : Nat) : (sgv neg n).natAbs = n := by unfold sgv; cases neg <;> simp
theorem sgv_neg (neg : Bool) (n : Nat) (h : n ≠ 0) : decide (sgv neg n < 0) = neg := by unfold sgv; cases neg <;> simp <;> omega
theorem IsN.mk {w : World} {v : Value} {neg : Bool} {ds : List Nat} (h : NR w v neg ds) (hd : dig10 ds) (ht : tidy ds) (hne : ds ≠ []) : IsN w v (sgv neg (valD ds)) := by
  have h0 : valD ds ≠ 0 := fun e => hne ((tidy_zero ht).1 e)
  exact ⟨ds, by rw [sgv_neg _ _ h0]; exact h, hd, ht, by rw [sgv_abs]⟩
theorem IsN.mk0 {w : World} {v : Value} (neg : Bool) (h : NR w v false []) : IsN w v (sgv neg 0) :=
  ⟨[], by have : sgv neg 0 = 0 := by unfold sgv; cases neg <;> rfl
          rw [this]; exact h, dig10_nil, tidy_nil, by rw [sgv_abs]; rfl⟩
theorem IsN.below {w w' : World} {v : Value} {z : Int} (h : IsN w v z) (hb : Below w.heap.size w w') : IsN w' v z := by
  obtain ⟨ds, h1, h2⟩ := h
  exact ⟨ds, h1.below hb, h2⟩

/-- A block that is known whole. -/
def Bk (w : World) (g : Nat) (cs : Array Value) : Prop := w.heap[g]? = some (.cells cs 91 (0, 0))
section
variable {w w' : World} {g : Nat} {cs : Array Value}
theorem Bk.cell (h : Bk w g cs) (i : Nat) : w.cell? ⟨g, i, none⟩ = cs[i]? := cell_of_row w g i cs _ (0, 0) h
theorem Bk.frozen (h : Bk w g cs) (i : Nat) : w.frozen? ⟨g, i, none⟩ = false := by
  unfold Bk at h
  simp [World.frozen?, h]
theorem Bk.lt (h : Bk w g cs) : g < w.heap.size := by
  rcases Nat.lt_or_ge g w.heap.size with h' | h'
  · exact h'
  · unfold Bk at h; rw [Array.getElem?_eq_none h'] at h; cases h
theorem Bk.new (w : World) (cs : Array Value) : Bk (w.alloc (.cells cs 91)) w.heap.size cs := heap_alloc_new w _
theorem Bk.alloc (h : Bk w g cs) (o : Obj) : Bk (w.alloc o) g cs := (Below.heap_alloc w o g h.lt).trans h
theorem Bk.put (h : Bk w g cs) (i : Nat) (u : Value) : Bk (w.setCell ⟨g, i, none⟩ u) g (cs.setIfInBounds i u) := by
  unfold Bk at h ⊢
  simp [World.setCell, Array.getElem?_modify, h]
theorem Bk.far (h : Bk w g cs) {p : Addr} (hp : g ≠ p.block) (u : Value) : Bk (w.setCell p u) g cs := (Below.heap_setCell w p u g hp).trans h
theorem Bk.below {B : Nat} (h : Bk w g cs) (hb : Below B w w') (hg : g < B) : Bk w' g cs := (hb.block g hg).trans h
theorem Bk.drewN (h : Bk w g cs) (n : Nat) : Bk (w.drewN n) g cs := h
theorem Bk.grown {row : Option Nat} (h : Bk w g cs) (hb : w.grownBy w' row) (hg : some g ≠ row) : Bk w' g cs := (hb.block g h.lt hg).trans h
end

theorem DS.put {w : World} {B : Nat} {v : Value} {ds : List Nat} (h : DS w B v ds) {g : Nat} {cs : Array Value} (hg : Bk w g cs) (i : Nat) (u : Value) : DS (w.setCell ⟨g, i, none⟩ u) B v ds := by
  obtain ⟨A, c, hv, hl, hm, hc⟩ := h
  refine ⟨A, c, hv, hl, hm, fun h0 => ?_⟩
  obtain ⟨b, o, cs', fr, ha, hb, hh, hcell⟩ := hc h0
  refine ⟨b, o, cs', fr, ha, hb, (Below.heap_setCell w _ u b ?_).trans hh, hcell⟩
  rintro rfl
  unfold Bk at hg
  rw [hg] at hh
  injection hh with hh
  injection hh with _ ht _
  exact absurd ht (by decide)
theorem NR.put {w : World} {v : Value} {neg : Bool} {ds : List Nat} (h : NR w v neg ds) {g : Nat} {cs : Array Value} (hg : Bk w g cs) (i : Nat) (u : Value) : NR (w.setCell ⟨g, i, none⟩ u) v neg ds := by
  obtain ⟨x, hv, hx⟩ := h
  refine ⟨x, hv, ?_⟩
  have := hx.put hg i u
  simpa [World.setCell] using this
theorem IsN.put {w : World} {v : Value} {z : Int} (h : IsN w v z) {g : Nat} {cs : Array Value} (hg : Bk w g cs) (i : Nat) (u : Value) : IsN (w.setCell ⟨g, i, none⟩ u) v z := by
  obtain ⟨ds, h1, h2⟩ := h
  exact ⟨ds, h1.put hg i u, h2⟩
/-- A whole number's value, written out. -/
theorem IsN.form {w : World} {v : Value} {z : Int} (h : IsN w v z) : ∃ b A n c, v = .agg #[.bool b, .slice A n c] := by
  obtain ⟨ds, ⟨u, rfl, A, c, rfl, _⟩, _⟩ := h
  exact ⟨_, _, _, _, rfl⟩

theorem res_struct {fn : Func} {t : Tmp} {tmps : Array Value} {W : World} {g : Nat} {x y : Value} (h : fn.results = #[.cell t 91]) (ha : tmps[t]?.getD undef = .pointer (some ⟨g, 0, none⟩)) (hb : Bk W g #[x, y]) :
    (results fn tmps).run Tryd.prog W = .ok (.agg #[x, y]) W := by
  have q0 := hb.cell 0
  have q1 := hb.cell 1
  simp at q0 q1
  simp [results, h, go_sem, ha, q0, q1]

end Go.Proofs.YtmbaohjekeiphaaDoor
/- The reference's numbers: Of, and what an appended row of digits reads as1. -/
namespace Go.Proofs.YtmbaohjekeiphaaDoor
open Go.RowKit

def cellsD (ds : List Nat) : List Value := ds.map fun d => Value.int .u8 ((d : Nat) : Int)
theorem cellsD_snoc (ds : List Nat) (d : Nat) : cellsD (ds ++ [d]) = cellsD ds ++ [Value.int .u8 (d : Int)] := by simp [cellsD]
theorem cellsD_len (ds : List Nat) : (cellsD ds).length = ds.length := by simp [cellsD]
theorem DS.of_own {w : World} {base : Nat} {v : Value} {ds : List Nat} (h : w.ownsRow base 5 1 v ds.length (cellsD ds)) : DS w w.heap.size v ds := by
  rcases h.2 with ⟨rfl, h0⟩ | ⟨g, cap, cur, rfl, hg, hh, hn, hc, hs, ht⟩
  · have : ds = [] := List.eq_nil_of_length_eq_zero h0
    subst this; exact DS.nil _ _
  · refine ⟨some ⟨g, 0, none⟩, cap, rfl, hn, hc, fun _ => ⟨g, 0, cur, _, rfl, ?_, hh, fun i hi => ?_⟩⟩
    · rcases Nat.lt_or_ge g w.heap.size with h' | h'
      · exact h'
      · rw [Array.getElem?_eq_none h'] at hh; cases hh
    · rw [Nat.zero_add]
      have h1 : (cur.toList.take (ds.length * 1))[i]? = (cellsD ds)[i]? := by rw [ht]
      rw [List.getElem?_take_of_lt (by omega), Array.getElem?_toList] at h1
      rw [h1]
      simp [cellsD, List.getElem?_map, List.getD_eq_getElem?_getD, List.getElem?_eq_getElem hi]

theorem own_setN {w : World} {base : Nat} {e : TypeId} {size n : Nat} {v : Value} {xs : List Value} (h : w.ownsRow base e size v n xs) {a : Addr} (ha : a.block < base) (u : Value) : (w.setCell a u).ownsRow base e size v n xs := ownsRow_setCell_below h ha u
theorem infoU8 : (Tryd.prog.info? 5).map (fun i => (i.zero, i.size, i.bytes)) = some (some (.int .u8 0), 1, 1) := by kernel_rfl

theorem pow_bound {k m n : Nat} (h : 10 ^ k * m ≤ n) (hm : 1 ≤ m) (hn : n < 10 ^ 19) : k ≤ 18 := by
  rcases Nat.lt_or_ge 18 k with h1 | h1
  · have h2 : 10 ^ 19 ≤ 10 ^ k := Nat.pow_le_pow_right (by omega) h1
    have h3 : 10 ^ k * 1 ≤ 10 ^ k * m := Nat.mul_le_mul_left _ hm
    omega
  · exact h1
/-- One round of Of. -/
theorem of_step {os : List Nat} {m N : Nat} (h : valD os + 10 ^ os.length * m = N) : valD (os ++ [m % 10]) + 10 ^ (os ++ [m % 10]).length * (m / 10) = N := by
  rw [valD_snoc, List.length_append, List.length_cons, List.length_nil, Nat.zero_add, Nat.pow_succ, Nat.mul_assoc, Nat.add_assoc, ← Nat.mul_add]
  rw [← h]
  congr 2
  omega
theorem tidy_snoc {os : List Nat} {d : Nat} (h : d ≠ 0) : tidy (os ++ [d]) := fun x r e => by
  have := (List.append_inj' e rfl).2
  simp only [List.cons.injEq, and_true] at this
  rw [← this]; exact h

/-- What holds of the digits of Of before each round: q is what is left. -/
def OfInv (N : Nat) (neg : Bool) (q : Int) (os : List Nat) : Prop := valD os + 10 ^ os.length * q.natAbs = N ∧ dig10 os ∧ (q = 0 → tidy os) ∧ (q ≠ 0 → decide (q < 0) = neg)

set_option maxHeartbeats 800000 in
set_option maxRecDepth 100000 in
theorem of_any (n : Int) (w : World) (h0 : -9223372036854775808 ≤ n) (h1 : n ≤ 9223372036854775807) :
    Calls Tryd.prog 54 #[.int .i64 n] w fun e w' => ∃ u, e = .returned u ∧ IsN w' u n ∧ Below w.heap.size w w' := by
  obtain ⟨i0, hi, hz0, hz1, hz2⟩ := info_parts infoU8
  go_enter Tryd.func54, Tryd.ntmps54
  go_wp2_with fail
  have b0 : Bk ((w.alloc (Obj.cells #[Value.bool false, Value.slice none 0 0] 91)).alloc (Obj.cells #[Value.bool (decide (n < 0)), Value.slice none 0 0] 91)) w.heap.size #[.bool false, .slice none 0 0] := (Bk.new _ _).alloc _
  have b1 : Bk ((w.alloc (Obj.cells #[Value.bool false, Value.slice none 0 0] 91)).alloc (Obj.cells #[Value.bool (decide (n < 0)), Value.slice none 0 0] 91)) (w.heap.size + 1) #[.bool (decide (n < 0)), .slice none 0 0] := by
    have := Bk.new (w.alloc (Obj.cells #[Value.bool false, Value.slice none 0 0] 91)) #[Value.bool (decide (n < 0)), Value.slice none 0 0]
    simpa using this
  have hb : Below w.heap.size w ((w.alloc (Obj.cells #[Value.bool false, Value.slice none 0 0] 91)).alloc (Obj.cells #[Value.bool (decide (n < 0)), Value.slice none 0 0] 91)) := ((Below.refl _ _).alloc (Nat.le_refl _) _).alloc (by simp) _
  have hs : w.heap.size + 2 ≤ ((w.alloc (Obj.cells #[Value.bool false, Value.slice none 0 0] 91)).alloc (Obj.cells #[Value.bool (decide (n < 0)), Value.slice none 0 0] 91)).heap.size := by simp
  generalize (w.alloc (Obj.cells #[Value.bool false, Value.slice none 0 0] 91)).alloc (Obj.cells #[Value.bool (decide (n < 0)), Value.slice none 0 0] 91) = W at *
  generalize hneg : decide (n < 0) = neg at *
  have HN := Lib.hid hneg
  clear hneg
  go_loopw [0] (fun x wr => ∃ (m : Int) (os : List Nat) (v : Value), x = .int .i64 m ∧ -9223372036854775808 ≤ m ∧ m ≤ 9223372036854775807 ∧
      OfInv n.natAbs neg m os ∧
      Bk wr w.heap.size #[.bool false, .slice none 0 0] ∧ Bk wr (w.heap.size + 1) #[.bool neg, v] ∧ wr.ownsRow (w.heap.size + 2) 5 1 v os.length (cellsD os) ∧ w.heap.size + 2 ≤ wr.heap.size ∧ Below w.heap.size w wr)
    (fun x _ => (intOf x).natAbs)
  case atStart => exact ⟨n, [], _, rfl, h0, h1, ⟨by simp [valD], dig10_nil, fun _ => tidy_nil, fun _ => HN.out⟩, b0, b1, World.ownsRow_nil _ _ _ _, hs, hb⟩
  case round =>
    obtain ⟨m, os, v, rfl, hm0, hm1, hm, r0, r1, hown, hs1, hbr⟩ := hrel
    clear b0 b1 hb hs
    have f0 := r0.cell 0
    have f1 := r0.cell 1
    have f2 := r0.frozen 0
    have f3 := r0.frozen 1
    have f4 := r1.cell 0
    have f5 := r1.cell 1
    have f6 := r1.frozen 0
    have f7 := r1.frozen 1
    simp at f0 f1 f4 f5
    by_cases hz : m = 0
    · subst hz
      have hds := DS.of_own hown
      obtain ⟨A, c, rfl, hds1⟩ := id hds
      have HF : Hid (sgv neg (valD os) = n ∧ dig10 os ∧ tidy os ∧ (os = [] → n = 0 ∧ neg = false)) := by
        obtain ⟨e1, e2, e3, _⟩ := hm
        rw [show (0 : Int).natAbs = 0 from rfl, Nat.mul_zero, Nat.add_zero] at e1
        have hn := HN.out
        refine ⟨?_, e2, e3 rfl, ?_⟩
        · unfold sgv; rw [e1, ← hn]; by_cases hx : n < 0 <;> simp [hx] <;> omega
        · rintro rfl
          have : n = 0 := by simp [valD] at e1; omega
          exact ⟨this, by rw [← hn, this]; rfl⟩
      clear hm hds1
      go_wp2_with fail
      refine bodyPost_ret (res_struct (g := w.heap.size) rfl rfl (by simpa using (r0.put 0 (.bool neg)).put 1 (.slice A os.length c))) rfl ?_
      have hbb : Below wr.heap.size wr wr := Below.refl _ _
      refine ⟨_, rfl, ?_, ?_⟩
      · obtain ⟨e1, e2, e3, e4⟩ := HF.out
        have hnr : NR ((wr.setCell ⟨w.heap.size, 0, none⟩ (.bool neg)).setCell ⟨w.heap.size, 1, none⟩ (.slice A os.length c)) (.agg #[.bool neg, .slice A os.length c]) neg os :=
          ⟨_, rfl, DS.of_own (own_setN (own_setN hown (by simp) _) (by simp) _)⟩
        by_cases he : os = []
        · obtain ⟨rfl, rfl⟩ := e4 he
          subst he
          exact IsN.mk0 false hnr
        · rw [← e1]; exact IsN.mk hnr e2 e3 he
      · go_grown
    · obtain ⟨dd, hdd⟩ : ∃ dd, dd = m.natAbs % 10 := ⟨_, rfl⟩
      obtain ⟨qq, hqq⟩ : ∃ qq, qq = m.natAbs / 10 := ⟨_, rfl⟩
      have hd9 : dd ≤ 9 := by omega
      have hlen : os.length ≤ 18 := pow_bound (n := n.natAbs) (m := m.natAbs) (by have := hm.1; omega) (by omega) (by omega)
      have hnz : (m != 0) = true := by rw [bne_iff_ne]; exact hz
      have h3 : (m < 0 ∧ 1 ≤ dd ∧ m.tmod 10 = -(dd : Int) ∧ m.tdiv 10 = -(qq : Int)) ∨ (m < 0 ∧ 0 ≤ dd ∧ m.tmod 10 = dd ∧ m.tdiv 10 = -(qq : Int)) ∨ (0 < m ∧ m.tmod 10 = dd ∧ m.tdiv 10 = qq) := by
        by_cases hp : 0 < m
        · refine .inr (.inr ⟨hp, ?_, ?_⟩)
          · rw [Int.tmod_eq_emod_of_nonneg (by omega)]; omega
          · rw [Int.tdiv_eq_ediv_of_nonneg (by omega)]; omega
        · obtain ⟨p, rfl⟩ : ∃ p : Int, m = -p := ⟨-m, by omega⟩
          have e1 : (-p).tmod 10 = -(dd : Int) := by rw [Int.neg_tmod, Int.tmod_eq_emod_of_nonneg (by omega)]; omega
          have e2 : (-p).tdiv 10 = -(qq : Int) := by rw [Int.neg_tdiv, Int.tdiv_eq_ediv_of_nonneg (by omega)]; omega
          by_cases hd0 : dd = 0
          · exact .inr (.inl ⟨by omega, by omega, by rw [e1, hd0]; rfl, e2⟩)
          · exact .inl ⟨by omega, by omega, e1, e2⟩
      have HH : Hid (dd = m.natAbs % 10 ∧ qq = m.natAbs / 10 ∧ m ≠ 0) := ⟨hdd, hqq, hz⟩
      have hq9 : qq ≤ 922337203685477580 := by omega
      clear hdd hqq hz
      have hne : ∀ g, g < w.heap.size + 2 → some g ≠ v.ownBlock := fun g hg e => by have := (hown.lt g e.symm).1; omega
      have hrow : ∀ k, v.ownBlock = some k → w.heap.size + 2 ≤ k := fun k e => (hown.lt k e).1
      have HQ : Hid (∀ q : Int, (q = qq ∧ 0 < m) ∨ (q = -(qq : Int) ∧ m < 0) → q.natAbs < m.natAbs ∧ -9223372036854775808 ≤ q ∧ q ≤ 9223372036854775807 ∧
          OfInv n.natAbs neg q (os ++ [dd])) := by
        intro q hq
        obtain ⟨e1, e2, e3⟩ := HH.out
        have hqa : q.natAbs = m.natAbs / 10 := by omega
        have hsn : decide (q < 0) = decide (m < 0) ∨ q = 0 := by
          by_cases hq0 : q = 0
          · exact .inr hq0
          · left; rw [decide_eq_decide]; omega
        refine ⟨by omega, by omega, by omega, ?_, dig10_snoc hm.2.1 (by omega), fun h0 => tidy_snoc (by omega), fun h0 => ?_⟩
        · rw [hqa, e1]; exact of_step hm.1
        · rw [← hm.2.2.2 e3]
          rcases hsn with h | h
          · exact h
          · exact absurd h h0
      have HM := Lib.hid hne
      have HW := Lib.hid hrow
      clear hm hne hrow
      rcases h3 with ⟨hsg, hd0, ht, hq⟩ | ⟨hsg, hd0, ht, hq⟩ | ⟨hsg, ht, hq⟩
      all_goals
        have HS := Lib.hid hsg
        clear hsg hm0 hm1 HH
        go_wp2_with (at_builtin; refine wpList_append_own _ rfl _ _ 89 rfl (w.heap.size + 2) 5 i0 (.int .u8 0) 1 1 Tryd.underlying89 hi hz0 hz1 hz2 rfl (by decide) _ _ _ rfl (hown.alloc _) ⟨wr.heap.size, 0, none⟩ 1 1 [.int .u8 (dd : Int)] rfl rfl ?c1 ?c2 ?c3 ?c4 ?c5 ?_)
        case c1 => exact cell_one_new _ _ _
        case c2 => intro u hu; rw [List.mem_singleton.1 hu]; rfl
        case c3 => unfold maxLen; omega
        case c4 => omega
        case c5 => simp; omega
        intro v' w1 hown1 hg1 _
        rw [← cellsD_snoc] at hown1
        have hlo : (os ++ [dd]).length = os.length + 1 := by simp
        rw [← hlo] at hown1
        have q0 : Bk w1 w.heap.size #[.bool false, .slice none 0 0] := (r0.alloc _).grown hg1 (HM.out _ (by omega))
        have q1 : Bk w1 (w.heap.size + 1) #[.bool neg, v] := (r1.alloc _).grown hg1 (HM.out _ (by omega))
        have hb1 : Below w.heap.size w w1 := (hbr.alloc (by omega) _).grown hg1 (by simp; omega) (fun k hk => by have := HW.out k hk; omega)
        have hs2 : w.heap.size + 2 ≤ w1.heap.size := by have := hg1.size; simp at this; omega
        obtain ⟨A, c, rfl, _⟩ := id (DS.of_own hown1)
        clear hown hg1 r0 r1 hbr f0 f1 f2 f3 f4 f5 f6 f7 hlo hs1
        have f4 := q1.cell 0
        have f5 := q1.cell 1
        have f6 := q1.frozen 0
        have f7 := q1.frozen 1
        simp at f4 f5
        go_wp2_with fail
        obtain ⟨q, hqe, hqm, hq1, hq2, hqh⟩ : ∃ q : Int, ((Value.int .i64 q = .int .i64 (-(qq : Int)) ∧ m < 0) ∨ (Value.int .i64 q = .int .i64 qq ∧ 0 < m)) ∧ q.natAbs < m.natAbs ∧ -9223372036854775808 ≤ q ∧ q ≤ 9223372036854775807 ∧ OfInv n.natAbs neg q (os ++ [dd]) := by
          first
          | exact ⟨-(qq : Int), .inl ⟨rfl, HS.out⟩, HQ.out _ (.inr ⟨rfl, HS.out⟩)⟩
          | exact ⟨qq, .inr ⟨rfl, HS.out⟩, HQ.out _ (.inl ⟨rfl, HS.out⟩)⟩
        have hqv : q = -(qq : Int) ∨ q = qq := by
          rcases hqe with ⟨h, _⟩ | ⟨h, _⟩
          · left; injection h
          · right; injection h
        go_roundw
        case rel =>
          refine ⟨q, os ++ [dd], .slice A (os ++ [dd]).length c, ?_, hq1, hq2, hqh, q0.far (by simp) _, by simpa using q1.put 1 (.slice A (os ++ [dd]).length c), own_setN hown1 (by simp) _, by simpa [World.setCell] using hs2, hb1.setCell (by simp) _⟩
          rcases hqe with ⟨h, hx⟩ | ⟨h, hx⟩
          · first | exact h.symm | (exfalso; have := HS.out; omega)
          · first | exact h.symm | (exfalso; have := HS.out; omega)
        case measure =>
          simp [intOf]
          rcases hqe with ⟨h, hx⟩ | ⟨h, hx⟩
          · injection h with _ h; omega
          · injection h with _ h; omega
end Go.Proofs.YtmbaohjekeiphaaDoor
/- The reference's order of sizes, and its sum. -/
namespace Go.Proofs.YtmbaohjekeiphaaDoor
open Go.RowKit

theorem DS.len {w : World} {B : Nat} {v : Value} {ds : List Nat} (h : DS w B v ds) : ∃ A c, v = .slice A ds.length c := by
  obtain ⟨A, c, hv, _⟩ := h; exact ⟨A, c, hv⟩

end Go.Proofs.YtmbaohjekeiphaaDoor
/- The reference's sum. -/
namespace Go.Proofs.YtmbaohjekeiphaaDoor
open Go.RowKit

/-- What holds of the digits of a sum before each round. -/
def SumInv (N : Nat) (ps qs os : List Nat) (c : Nat) : Prop := valD os + 10 ^ os.length * (c + valD (ps.drop os.length) + valD (qs.drop os.length)) = N ∧ dig10 os ∧ c ≤ 1
theorem SumInv.step {N : Nat} {ps qs os : List Nat} {c s : Nat} (h : SumInv N ps qs os c) (hp : dig10 ps) (hq : dig10 qs) (hs : s = ps.getD os.length 0 + qs.getD os.length 0 + c) : SumInv N ps qs (os ++ [s % 10]) (s / 10) := by
  obtain ⟨h1, h2, h3⟩ := h
  have a1 := dig10_at hp os.length
  have a2 := dig10_at hq os.length
  refine ⟨?_, dig10_snoc h2 (Nat.mod_lt _ (by omega)), by omega⟩
  rw [valD_drop ps, valD_drop qs] at h1
  have := sum_step h1 hs
  rw [valD_snoc, List.length_append, List.length_cons, List.length_nil, Nat.zero_add, Nat.pow_succ]
  exact this

/-- The number v, written out: what its cells are. -/
theorem NR.open {w : World} {v : Value} {neg : Bool} {ds : List Nat} (h : NR w v neg ds) : ∃ A c, v = .agg #[.bool neg, .slice A ds.length c] ∧ DS w w.heap.size (.slice A ds.length c) ds := by
  obtain ⟨u, rfl, hu⟩ := h
  obtain ⟨A, c, rfl⟩ := hu.len
  exact ⟨A, c, rfl, hu⟩

theorem SumInv.start (ps qs : List Nat) : SumInv (valD ps + valD qs) ps qs [] 0 := ⟨by simp [valD], dig10_nil, by omega⟩
theorem SumInv.done {N : Nat} {ps qs os : List Nat} (h : SumInv N ps qs os 0) (hp : ps.length ≤ os.length) (hq : qs.length ≤ os.length) : valD os = N ∧ dig10 os := by
  obtain ⟨h1, h2, _⟩ := h
  rw [List.drop_of_length_le hp, List.drop_of_length_le hq] at h1
  simp only [valD, Nat.add_zero, Nat.mul_zero] at h1
  exact ⟨h1, h2⟩

/-- Four new blocks, and nothing else turned. -/
theorem four_new (w : World) (c0 c1 c2 c3 : Array Value) (W : World)
    (hW : W = (((w.alloc (.cells c0 91)).alloc (.cells c1 91)).alloc (.cells c2 91)).alloc (.cells c3 91)) :
    Bk W w.heap.size c0 ∧ Bk W (w.heap.size + 1) c1 ∧ Bk W (w.heap.size + 1 + 1) c2 ∧ Bk W (w.heap.size + 1 + 1 + 1) c3 ∧ Below w.heap.size w W ∧ w.heap.size + 1 + 1 + 1 < W.heap.size := by
  subst hW
  refine ⟨(((Bk.new w c0).alloc _).alloc _).alloc _, ?_, ?_, ?_, by go_grown, by simp⟩
  · have := Bk.new (w.alloc (.cells c0 91)) c1
    simp only [World.size_alloc] at this
    exact (this.alloc _).alloc _
  · have := Bk.new ((w.alloc (.cells c0 91)).alloc (.cells c1 91)) c2
    simp only [World.size_alloc] at this
    exact this.alloc _
  · have := Bk.new (((w.alloc (.cells c0 91)).alloc (.cells c1 91)).alloc (.cells c2 91)) c3
    simp only [World.size_alloc] at this
    exact this
theorem quiet_l {P : Program} {f : FuncId} {args : Array Value} {w : World} {n : Nat} {v : Value}
    (h : Calls P f args (w.drewN n) fun e w' => e = .returned v ∧ w.drewN n = w') : Calls P f args (w.drewN n) fun e w'' => e = .returned v ∧ ∃ m, w'' = w.drewN m :=
  h.mono fun _ _ ⟨he, hm⟩ => ⟨he, n, hm.symm⟩

end Go.Proofs.YtmbaohjekeiphaaDoor
/- The reference's sum of two numbers of unlike signs; the sum as1 a whole. -/
namespace Go.Proofs.YtmbaohjekeiphaaDoor
open Go.RowKit

def SubInv (ps qs os : List Nat) (c : Nat) : Prop := valD os + 10 ^ os.length * valD (ps.drop os.length) + valD qs = valD ps + 10 ^ os.length * (c + valD (qs.drop os.length)) ∧ dig10 os ∧ c ≤ 1
theorem SubInv.start (ps qs : List Nat) : SubInv ps qs [] 0 := ⟨by simp [valD], dig10_nil, by omega⟩
theorem sub_step {o P A B x y c c' d V Q : Nat} (h : o + P * (x + 10 * A) + Q = V + P * (c + (y + 10 * B))) (hd : d + y + c = x + 10 * c') : (o + P * d) + P * 10 * A + Q = V + P * 10 * (c' + B) := by
  have e1 : P * 10 * A = P * (10 * A) := Nat.mul_assoc _ _ _
  have e2 : P * 10 * (c' + B) = P * (10 * c' + 10 * B) := by rw [Nat.mul_assoc, Nat.mul_add]
  rw [e1, e2]
  have e3 : P * (d + y + c) = P * (x + 10 * c') := by rw [hd]
  simp only [Nat.mul_add] at *
  omega
theorem SubInv.step {ps qs os : List Nat} {c c' d : Nat} (h : SubInv ps qs os c) (hd : d + qs.getD os.length 0 + c = ps.getD os.length 0 + 10 * c') (hc : c' ≤ 1) (hd9 : d < 10) : SubInv ps qs (os ++ [d]) c' := by
  obtain ⟨h1, h2, h3⟩ := h
  refine ⟨?_, dig10_snoc h2 hd9, hc⟩
  rw [valD_drop ps, valD_drop qs] at h1
  have := sub_step h1 hd
  rw [valD_snoc, List.length_append, List.length_cons, List.length_nil, Nat.zero_add, Nat.pow_succ]
  exact this
theorem SubInv.done {ps qs os : List Nat} {c : Nat} (h : SubInv ps qs os c) (hp : os.length = ps.length) (hq : qs.length ≤ ps.length) (hle : valD qs ≤ valD ps) : valD os = valD ps - valD qs ∧ dig10 os := by
  obtain ⟨h1, h2, h3⟩ := h
  refine ⟨?_, h2⟩
  rw [hp, List.drop_length, List.drop_of_length_le hq] at h1
  simp only [valD, Nat.add_zero, Nat.mul_zero] at h1
  have h4 := valD_lt h2
  rw [hp] at h4
  rcases c with _ | c
  · omega
  · have : c = 0 := by omega
    subst this
    omega

theorem four_new' (w : World) (c0 c1 c2 c3 : Array Value) (n : Nat) (W : World)
    (hW : W = ((((w.alloc (.cells c0 91)).alloc (.cells c1 91)).alloc (.cells c2 91)).drewN n).alloc (.cells c3 91)) :
    Bk W w.heap.size c0 ∧ Bk W (w.heap.size + 1) c1 ∧ Bk W (w.heap.size + 1 + 1) c2 ∧ Bk W (w.heap.size + 1 + 1 + 1) c3 ∧ Below w.heap.size w W ∧ w.heap.size + 1 + 1 + 1 < W.heap.size := by
  obtain ⟨h0, h1, h2, h3, h4, h5⟩ := four_new w c0 c1 c2 c3 _ rfl
  subst hW
  exact ⟨h0, h1, h2, h3, ⟨h4.os, h4.tape, h4.output, h4.size, h4.block⟩, h5⟩

/-- A bound that no number of the laws comes near. -/
def lim : Nat := 10 ^ 200
theorem IsN.len {w : World} {v : Value} {z : Int} (h : IsN w v z) (hz : z.natAbs < lim) : ∃ ds, NR w v (decide (z < 0)) ds ∧ dig10 ds ∧ tidy ds ∧ valD ds = z.natAbs ∧ ds.length ≤ 200 := by
  obtain ⟨ds, h1, h2, h3, h4⟩ := h
  refine ⟨ds, h1, h2, h3, h4, tidy_len h3 ?_⟩
  rw [h4]; exact hz

theorem three_new (w : World) (c0 c1 c2 : Array Value) (W : World)
    (hW : W = ((w.alloc (.cells c0 91)).alloc (.cells c1 91)).alloc (.cells c2 91)) :
    Bk W w.heap.size c0 ∧ Bk W (w.heap.size + 1) c1 ∧ Bk W (w.heap.size + 1 + 1) c2 ∧ Below w.heap.size w W ∧ w.heap.size + 1 + 1 < W.heap.size := by
  subst hW
  refine ⟨((Bk.new w c0).alloc _).alloc _, ?_, ?_, by go_grown, by simp⟩
  · have := Bk.new (w.alloc (.cells c0 91)) c1
    simp only [World.size_alloc] at this
    exact this.alloc _
  · have := Bk.new ((w.alloc (.cells c0 91)).alloc (.cells c1 91)) c2
    simp only [World.size_alloc] at this
    exact this

end Go.Proofs.YtmbaohjekeiphaaDoor
/- The reference's negation and comparison. -/
namespace Go.Proofs.YtmbaohjekeiphaaDoor
open Go.RowKit

theorem two_new (w : World) (c0 c1 : Array Value) (W : World) (hW : W = (w.alloc (.cells c0 91)).alloc (.cells c1 91)) :
    Bk W w.heap.size c0 ∧ Bk W (w.heap.size + 1) c1 ∧ Below w.heap.size w W ∧ w.heap.size + 1 < W.heap.size := by
  subst hW
  refine ⟨(Bk.new w c0).alloc _, ?_, by go_grown, by simp⟩
  have := Bk.new (w.alloc (.cells c0 91)) c1
  simp only [World.size_alloc] at this
  exact this

theorem bcell {W w1 : World} (hb : Below W.heap.size W w1) : (∀ b o, b < W.heap.size → w1.cell? ⟨b, o, none⟩ = W.cell? ⟨b, o, none⟩) ∧ (∀ b o, b < W.heap.size → w1.frozen? ⟨b, o, none⟩ = W.frozen? ⟨b, o, none⟩) :=
  ⟨fun b o h => hb.cell (p := ⟨b, o, none⟩) h, fun b o h => hb.frozen (p := ⟨b, o, none⟩) h⟩
def cmpI (x y : Int) : Int := if x < y then -1 else if y < x then 1 else 0
end Go.Proofs.YtmbaohjekeiphaaDoor
/- The reference's turn into an int64. -/
namespace Go.Proofs.YtmbaohjekeiphaaDoor
open Go.RowKit

def fitsB (n : Int) : Bool := decide (-9223372036854775808 ≤ n ∧ n ≤ 9223372036854775807)
theorem lim_small : 9223372036854775808 < lim := by unfold lim; decide +kernel
theorem cmp_least (z : Int) (h : -9223372036854775808 ≤ z) : 0 ≤ cmpI z (-9223372036854775808) := by unfold cmpI; rw [if_neg (by omega)]; split <;> omega
theorem cmp_least' (z : Int) (h : z < -9223372036854775808) : cmpI z (-9223372036854775808) < 0 := by unfold cmpI; rw [if_pos (by omega)]; omega
theorem cmp_most (z : Int) (h : z ≤ 9223372036854775807) : cmpI z 9223372036854775807 ≤ 0 := by unfold cmpI; split; omega; rw [if_neg (by omega)]; omega
theorem cmp_most' (z : Int) (h : 9223372036854775807 < z) : 0 < cmpI z 9223372036854775807 := by unfold cmpI; rw [if_neg (by omega), if_pos (by omega)]; omega
theorem cmp_bd (x y : Int) : -1 ≤ cmpI x y ∧ cmpI x y ≤ 1 := by unfold cmpI; split; omega; split <;> omega

theorem ret_ib {k : IntKind} {a b : Int} {c d : Bool} (h : a = b) (h' : c = d) : Ending.returned (.tuple #[.int k a, .bool c]) = .returned (.tuple #[.int k b, .bool d]) := by rw [h, h']
theorem int_bounds {z : Int} {n : Nat} (h : n = z.natAbs) (hz : -9223372036854775808 ≤ z ∧ z ≤ 9223372036854775807) : n = z.natAbs ∧ n ≤ 9223372036854775808 ∧ (decide (z < 0) = false → n ≤ 9223372036854775807) :=
  ⟨h, by omega, fun h => by simp at h; omega⟩
theorem sgv_of {z : Int} {n : Nat} (h : n = z.natAbs) : sgv (decide (z < 0)) n = z := by
  rw [h]; unfold sgv; by_cases hx : z < 0 <;> simp [hx] <;> omega
theorem one_new (w : World) (c0 : Array Value) (W : World) (hW : W = w.alloc (.cells c0 91)) : Bk W w.heap.size c0 ∧ Below w.heap.size w W ∧ w.heap.size < W.heap.size := by
  subst hW
  exact ⟨Bk.new w c0, by go_grown, by simp⟩

end Go.Proofs.YtmbaohjekeiphaaDoor
/- The reference's text of a number, and the law IntsText: it returns true for every input. -/
namespace Go.Proofs.YtmbaohjekeiphaaDoor
open Go.RowKit

theorem DS.old_at {w : World} {B : Nat} {A : Option Addr} {n c : Nat} {ds : List Nat} (h : DS w B (.slice A n c) ds) {i : Nat} (hi : i < ds.length) :
    ∃ b o, A = some ⟨b, o, none⟩ ∧ b < B ∧ w.cell? ⟨b, o + i, none⟩ = some (.int .u8 ((ds.getD i 0 : Nat) : Int)) := by
  obtain ⟨A1, c1, hv, _, _, hc⟩ := h.old
  injection hv with h1 h2 h3
  subst h1
  obtain ⟨b, o, ha, hb, hcell⟩ := hc (by omega)
  exact ⟨b, o, ha, hb, hcell i hi⟩
theorem lim_int {n : Int} (h0 : -9223372036854775808 ≤ n) (h1 : n ≤ 9223372036854775807) : n.natAbs < lim := by have := lim_small; omega

/-- The digits of a number, the least first, as the text has them, the greatest first. -/
theorem decDigits_of {ds : List Nat} (hd : dig10 ds) (ht : tidy ds) (hne : ds ≠ []) : Lib.decDigits (valD ds) = ds.reverse.map fun d => UInt8.ofNat (48 + d) := by
  induction ds with
  | nil => exact absurd rfl hne
  | cons x r ih =>
    have hx := hd x (by simp)
    by_cases hr : r = []
    · subst hr
      rw [show valD [x] = x by simp [valD], Lib.decDigits, dif_pos hx]; rfl
    · have hd' : dig10 r := fun d h => hd d (by simp [h])
      have ht' : tidy r := fun y s h => ht y (x :: s) (by rw [h]; rfl)
      have h0 : valD r ≠ 0 := fun h => hr ((tidy_zero ht').1 h)
      rw [Lib.decDigits, dif_neg (by simp only [valD]; omega)]
      have e1 : valD (x :: r) / 10 = valD r := by simp only [valD]; omega
      have e2 : valD (x :: r) % 10 = x := by simp only [valD]; omega
      rw [e1, e2, ih hd' ht' hr]
      simp
def preB (neg : Bool) : List UInt8 := if neg then [45] else []
def txt (neg : Bool) (ds : List Nat) : List UInt8 := preB neg ++ ds.reverse.map fun d => UInt8.ofNat (48 + d)
theorem itoa_of {z : Int} {ds : List Nat} (hd : dig10 ds) (ht : tidy ds) (hv : valD ds = z.natAbs) (hne : ds ≠ []) : Lib.itoa z = txt (decide (z < 0)) ds := by
  unfold Lib.itoa txt preB
  by_cases h : z < 0
  · rw [if_pos h, ← hv, decDigits_of hd ht hne]; simp [h]
  · rw [if_neg h, show z.toNat = valD ds by omega, decDigits_of hd ht hne]; simp [h]
theorem itoa_zero : Lib.itoa 0 = [48] := by unfold Lib.itoa; rw [if_neg (by omega), show (0 : Int).toNat = 0 from rfl, Lib.decDigits]; rfl

theorem txt_len (neg : Bool) (ds : List Nat) : (txt neg ds).length ≤ ds.length + 1 := by unfold txt preB; cases neg <;> simp
theorem txt_step (neg : Bool) (ds : List Nat) (j : Nat) (hj : j < ds.length) : txt neg (ds.drop j) = txt neg (ds.drop (j + 1)) ++ [UInt8.ofNat (48 + ds.getD j 0)] := by
  unfold txt
  rw [List.drop_eq_getElem_cons hj, List.getD_eq_getElem?_getD, List.getElem?_eq_getElem hj]
  simp only [List.reverse_cons, List.map_append, List.map_cons, List.map_nil, List.append_assoc, Option.getD_some]
theorem u8_48 {d : Nat} (h : d < 10) : ((UInt8.ofNat (48 + d)).toNat : Int) = 48 + d := by
  rw [UInt8.toNat_ofNat', Nat.mod_eq_of_lt (by omega)]; omega
def cellsB (l : List UInt8) : List Value := l.map fun b => Value.int .u8 (b.toNat : Int)
theorem cellsB_snoc (l : List UInt8) (c : UInt8) : cellsB (l ++ [c]) = cellsB l ++ [Value.int .u8 (c.toNat : Int)] := by simp [cellsB]
/-- A row of the call's own that reads as bytes, turned into a string. -/
theorem conv_own {W : World} {base : Nat} {v : Value} {l : List UInt8} (h : W.ownsRow base 5 1 v l.length (cellsB l)) (hl : 0 < l.length) :
    ∃ A c, v = .slice A l.length c ∧ (convert 89 9 (.slice A l.length c)).run Tryd.prog W = .ok (.string ⟨l.toArray⟩) W := by
  obtain ⟨g, cap, rfl⟩ : ∃ g cap, v = .slice (some ⟨g, 0, none⟩) l.length cap := by
    rcases h.2 with ⟨_, h0⟩ | ⟨g, cap, cur, hv, _⟩
    · omega
    · exact ⟨g, cap, hv⟩
  refine ⟨_, cap, rfl, run_convert_bytes_back W _ _ _ _ _ _ Tryd.underlying89 Tryd.underlying5 Tryd.underlying9 fun j hj => ?_⟩
  exact h.cells (g := g) rfl j _ (by simp [cellsB, List.getElem?_map, List.getElem?_eq_getElem hj])

set_option maxRecDepth 100000 in
set_option maxHeartbeats 1600000 in
theorem textR_any (v : Value) (z : Int) (w : World) (hv : IsN w v z) (hz : z.natAbs < lim) :
    Calls Tryd.prog 53 #[v] w fun e w' => e = .returned (.string ⟨(Lib.itoa z).toArray⟩) ∧ Below w.heap.size w w' := by
  obtain ⟨ds, h1, h2, h3, h4, h5⟩ := hv.len hz
  obtain ⟨A, c, rfl, hA⟩ := h1.open
  by_cases hne : ds = []
  · have hz0 : z = 0 := by rw [hne] at h4; simp [valD] at h4; omega
    subst hz0 hne
    rw [itoa_zero]
    clear hv h1
    go_enter Tryd.func53, Tryd.ntmps53
    go_wp2_with fail
    go_ret
    exact ⟨rfl, by go_grown⟩
  · have hl : 0 < ds.length := List.length_pos_iff.2 hne
    rw [itoa_of h2 h3 h4 hne]
    obtain ⟨i0, hi, hz0, hz1, hz2⟩ := info_parts infoU8
    clear hv h1
    generalize decide (z < 0) = neg at *
    go_enter Tryd.func53, Tryd.ntmps53
    go_upto_region 4 with fail
    obtain ⟨b0, hb, hs⟩ := one_new w #[Value.bool neg, Value.slice A ds.length c] _ rfl
    have hdW := hA.below hb (Nat.le_refl _)
    obtain ⟨b, o, rfl, hbb, hcell0⟩ := hA.old_at (i := 0) hl
    generalize (w.alloc (Obj.cells #[Value.bool neg, Value.slice (some ⟨b, o, none⟩) ds.length c] 91)) = W at *
    have f0 := b0.cell 0
    have f1 := b0.cell 1
    simp at f0 f1
    have hnz : ((ds.length : Int) == 0) = false := by rw [beq_eq_false_iff_ne]; omega
    clear hcell0
    go_upto_if 10 with fail
    go_cut [3] (fun s3 wx => wx.ownsRow (w.heap.size + 1) 5 1 s3 (txt neg []).length (cellsB (txt neg [])) ∧ Bk wx w.heap.size #[.bool neg, .slice (some ⟨b, o, none⟩) ds.length c] ∧ w.heap.size + 1 ≤ wx.heap.size ∧ Below w.heap.size w wx)
    case first =>
      cases neg
      · go_wp2_with fail
        go_meet
        exact ⟨World.ownsRow_nil _ _ _ _, b0, hs, hb⟩
      · have hown := World.ownsRow_nil W (w.heap.size + 1) 5 1
        go_wp2_with (at_builtin; refine wpList_append_own _ rfl _ _ 89 rfl (w.heap.size + 1) 5 i0 (.int .u8 0) 1 1 Tryd.underlying89 hi hz0 hz1 hz2 rfl (by decide) _ _ _ rfl (hown.alloc _) ⟨W.heap.size, 0, none⟩ 1 1 [.int .u8 45] rfl rfl ?c1 ?c2 ?c3 ?c4 ?c5 ?_)
        case c1 => exact cell_one_new _ _ _
        case c2 => intro u hu; rw [List.mem_singleton.1 hu]; rfl
        case c3 => unfold maxLen; omega
        case c4 => omega
        case c5 => simp; omega
        intro v' w1 hown1 hg1 _
        go_wp2_with fail
        go_meet
        exact ⟨hown1, (b0.alloc _).grown hg1 (by simp [Value.ownBlock]), by have := hg1.size; simp at this; omega, (hb.alloc (by omega) _).grown hg1 (by simp; omega) (fun k hk => by simp [Value.ownBlock] at hk)⟩
    case rest =>
      obtain ⟨hown, r0, hs1, hbr⟩ := hcut
      clear b0 hb hdW f0 f1 hs
      have f1 := r0.cell 1
      simp at f1
      go_wp2_with fail
      go_loopw [3, 4] (fun s3 iv wr => ∃ k : Nat, k ≤ ds.length ∧ iv = .int .i64 ((k : Int) - 1) ∧ wr.ownsRow (w.heap.size + 1) 5 1 s3 (txt neg (ds.drop k)).length (cellsB (txt neg (ds.drop k))) ∧ Bk wr w.heap.size #[.bool neg, .slice (some ⟨b, o, none⟩) ds.length c] ∧ w.heap.size + 1 ≤ wr.heap.size ∧ Below w.heap.size w wr) (fun _ iv _ => (intOf iv + 1).toNat)
      case atStart => exact ⟨ds.length, Nat.le_refl _, rfl, by rw [List.drop_length]; exact hown, r0, hs1, hbr⟩
      case round =>
        obtain ⟨k, hk, rfl, hown, r0, hs1, hbr⟩ := hrel
        rcases k with _ | j
        · rw [List.drop_zero] at hown
          have hlt : 0 < (txt neg ds).length := by unfold txt; rw [List.length_append, List.length_map, List.length_reverse]; omega
          obtain ⟨A, c, rfl, hconv⟩ := conv_own hown hlt
          generalize hT : txt neg ds = tt at *
          have HT := Lib.hid hT
          clear hown r0 hs1 f1 hT
          go_wp2_with fail
          go_ret
          exact ⟨by rw [HT.out]; rfl, hbr⟩
        · have e1 : (((j + 1 : Nat) : Int) - 1) = (j : Int) := by omega
          rw [e1]
          obtain ⟨b', o', he, hbb', hcell⟩ := hA.old_at (i := j) (by omega)
          injection he with he
          injection he with e2 e3 _
          subst e2 e3
          have fj := (hbr.cell (p := ⟨b, o + j, none⟩) hbb).trans hcell
          have h10 := dig10_at h2 j
          have hstep := txt_step neg ds j (by omega)
          have hlen := txt_len neg (ds.drop (j + 1))
          rw [List.length_drop] at hlen
          have hu := u8_48 h10
          have HS : Hid (txt neg (ds.drop j) = txt neg (ds.drop (j + 1)) ++ [UInt8.ofNat (48 + ds.getD j 0)]) := hstep
          have HU : Hid (((UInt8.ofNat (48 + ds.getD j 0)).toNat : Int) = 48 + ((ds.getD j 0 : Nat) : Int)) := hu
          generalize ds.getD j 0 = x at *
          clear e1 hcell hstep hu f1
          have f1 := r0.cell 1
          simp at f1
          generalize hT : txt neg (ds.drop (j + 1)) = T at *
          have hne : ∀ g, g < w.heap.size + 1 → some g ≠ Value.ownBlock _ := fun g hg e => by have := (hown.lt g e.symm).1; omega
          have hrow : ∀ k, Value.ownBlock _ = some k → w.heap.size + 1 ≤ k := fun k e => (hown.lt k e).1
          have HNE := Lib.hid hne
          have HRO := Lib.hid hrow
          have HT := Lib.hid hT
          clear hne hrow hT
          go_wp2_with (at_builtin; refine wpList_append_own _ rfl _ _ 89 rfl (w.heap.size + 1) 5 i0 (.int .u8 0) 1 1 Tryd.underlying89 hi hz0 hz1 hz2 rfl (by decide) _ _ _ rfl (hown.alloc _) ⟨wr.heap.size, 0, none⟩ 1 1 [.int .u8 (48 + (x : Int))] rfl rfl ?d1 ?d2 ?d3 ?d4 ?d5 ?_)
          try (case d1 => exact cell_one_new _ _ _)
          case d2 => first | rfl | (intro u hu; rw [List.mem_singleton.1 hu]; rfl)
          case d3 => unfold maxLen; omega
          case d4 => omega
          case d5 => first | omega | (simp; omega)
          intro v' w1 hown1 hg1 _
          rw [← HU.out, ← cellsB_snoc, ← HS.out] at hown1
          have hl2 : (txt neg (ds.drop j)).length = T.length + 1 := by rw [HS.out]; simp
          rw [← hl2] at hown1
          have q0 := (r0.alloc _).grown hg1 (HNE.out _ (by omega))
          have hb1 : Below w.heap.size w w1 := (hbr.alloc (by omega) _).grown hg1 (by simp; omega) (fun k hk => by have := HRO.out k hk; omega)
          have hs2 : w.heap.size + 1 ≤ w1.heap.size := by have := hg1.size; simp at this; omega
          clear hown hg1 r0 hbr hs1 f1 fj
          go_wp2_with fail
          go_roundw
          case rel => exact ⟨j, by omega, rfl, hown1, q0, hs2, hb1⟩
          case measure => simp [intOf]
end Go.Proofs.YtmbaohjekeiphaaDoor
/- The law IntsText: it returns true for every input. -/
namespace Go.Proofs.YtmbaohjekeiphaaDoor
open Go.RowKit

theorem numFrom_snoc (l : List UInt8) (c : UInt8) (a : Nat) : numFrom a (l ++ [c]) = numFrom a l * 10 + (c.toNat - 48) := by simp [numFrom, List.foldl_append]
theorem u8d {d : Nat} (h : d < 10) : (UInt8.ofNat (48 + d)).toNat = 48 + d := by rw [UInt8.toNat_ofNat', Nat.mod_eq_of_lt (by omega)]
theorem dec_facts : ∀ u : Nat, numFrom 0 (Lib.decDigits u) = u ∧ (Lib.decDigits u).all digitB = true ∧ (1 ≤ u → ∃ c r, Lib.decDigits u = c :: r ∧ 49 ≤ c.toNat ∧ c.toNat ≤ 57) := by
  intro u
  induction u using Nat.strongRecOn with
  | ind u ih =>
    rw [Lib.decDigits]
    by_cases h : u < 10
    · rw [dif_pos h]
      have e := u8d h
      refine ⟨by simp only [numFrom, List.foldl_cons, List.foldl_nil]; omega, by simp only [List.all_cons, List.all_nil, Bool.and_true, digitB, decide_eq_true_eq]; omega, fun h1 => ⟨_, [], rfl, by omega, by omega⟩⟩
    · rw [dif_neg h]
      obtain ⟨h1, h2, h3⟩ := ih (u / 10) (by omega)
      have e := u8d (d := u % 10) (by omega)
      refine ⟨by rw [numFrom_snoc, h1]; omega, by rw [List.all_append, h2]; simp only [List.all_cons, List.all_nil, Bool.and_true, digitB, Bool.true_and, decide_eq_true_eq]; omega, fun _ => ?_⟩
      obtain ⟨c, r, hc, h4⟩ := h3 (by omega)
      exact ⟨c, r ++ [_], by rw [hc]; rfl, h4⟩
theorem dec_ne (u : Nat) : Lib.decDigits u ≠ [] := by
  rw [Lib.decDigits]
  by_cases h : u < 10
  · rw [dif_pos h]; simp
  · rw [dif_neg h]; simp
theorem itoa_facts (n : Int) : isTextB (Lib.itoa n) = true ∧ valB (Lib.itoa n) = n := by
  unfold Lib.itoa
  by_cases h : n < 0
  · rw [if_pos h]
    obtain ⟨h1, h2, h3⟩ := dec_facts n.natAbs
    obtain ⟨c, r, hc, h4, h5⟩ := h3 (by omega)
    refine ⟨?_, ?_⟩
    · unfold isTextB
      rw [bare_minus, hc]
      simp only
      rw [if_neg (by omega), ← hc]; exact h2
    · unfold valB
      rw [hp_minus, if_pos rfl, bare_minus, h1]; clear h3; omega
  · rw [if_neg h]
    obtain ⟨h1, h2, h3⟩ := dec_facts n.toNat
    by_cases h0 : n = 0
    · subst h0
      rw [show Lib.decDigits (0 : Int).toNat = [48] by rw [show (0 : Int).toNat = 0 from rfl, Lib.decDigits]; rfl]
      decide
    · obtain ⟨c, r, hc, h4, h5⟩ := h3 (by omega)
      have hcm : c ≠ 45 := fun e => by rw [e] at h4; exact absurd h4 (by decide)
      refine ⟨?_, ?_⟩
      · unfold isTextB
        rw [hc, bare_other r hcm]
        simp only
        rw [if_neg (by omega), ← hc]; exact h2
      · unfold valB
        rw [hc, hp_other r hcm, bare_other r hcm, ← hc, h1]
        clear h3; simp; omega
theorem dec_len : ∀ (k u : Nat), u < 10 ^ (k + 1) → (Lib.decDigits u).length ≤ k + 1 := by
  intro k
  induction k with
  | zero => intro u h; rw [Lib.decDigits, dif_pos (by simpa using h)]; simp
  | succ k ih =>
    intro u h
    rw [Lib.decDigits]
    by_cases h1 : u < 10
    · rw [dif_pos h1]; simp
    · rw [dif_neg h1, List.length_append]
      have h2 : u / 10 < 10 ^ (k + 1) := by rw [Nat.pow_succ] at h; omega
      have := ih (u / 10) h2
      simp only [List.length_cons, List.length_nil]; omega
theorem itoa_len (n : Int) (h0 : -9223372036854775808 ≤ n) (h1 : n ≤ 9223372036854775807) : (Lib.itoa n).length ≤ 20 := by
  have hd : ∀ u : Nat, u ≤ 9223372036854775808 → (Lib.decDigits u).length ≤ 19 := fun u hu => dec_len 18 u (by omega)
  unfold Lib.itoa
  split
  · simp only [List.length_cons]; have := hd n.natAbs (by omega); omega
  · have := hd n.toNat (by omega); omega
end Go.Proofs.YtmbaohjekeiphaaDoor
/- The reference's reading of a text. -/
namespace Go.Proofs.YtmbaohjekeiphaaDoor
open Go.RowKit

/-- Where the digits begin, and whether there is a sign. -/
def negB (l : List UInt8) : Bool := Lib.hasPrefix l [45]
def fromN (l : List UInt8) : Nat := if negB l then 1 else 0
theorem bare_drop (l : List UInt8) : bare l = l.drop (fromN l) := by
  unfold bare Lib.trimPrefix fromN negB
  by_cases h : Lib.hasPrefix l [45] = true
  · rw [if_pos h, if_pos h]; rfl
  · rw [if_neg h, if_neg h]; rfl
theorem valB_sgv (l : List UInt8) : valB l = sgv (negB l) (numFrom 0 (l.drop (fromN l))) := by
  rw [← bare_drop]; unfold valB sgv negB; rfl
theorem text_short {l : List UInt8} (h : l.length = fromN l) : isTextB l = false := by
  unfold isTextB
  rw [bare_drop, List.drop_of_length_le (by omega)]
theorem text_zero {l : List UInt8} (h1 : fromN l < l.length) (h2 : (l[fromN l]'h1).toNat = 48) (h3 : 1 < l.length) : isTextB l = false := by
  unfold isTextB
  rw [bare_drop, List.drop_eq_getElem_cons h1]
  simp only
  rw [if_pos h2, decide_eq_false_iff_not]
  intro e
  rw [e] at h3
  simp at h3
theorem text_digits {l : List UInt8} (h1 : fromN l < l.length) (h2 : (l[fromN l]'h1).toNat ≠ 48 ∨ l.length = 1) : isTextB l = (l.drop (fromN l)).all digitB := by
  unfold isTextB
  rw [bare_drop]
  rw [List.drop_eq_getElem_cons h1]
  simp only
  by_cases h3 : (l[fromN l]'h1).toNat = 48
  · have h4 : l.length = 1 := by
      rcases h2 with h | h
      · exact absurd h3 h
      · exact h
    have h5 : fromN l = 0 := by omega
    match l, h4 with
    | [c], _ =>
      have hc : c.toNat = 48 := by simpa [h5] using h3
      have : c = 48 := by rw [← UInt8.toNat_inj]; exact hc
      subst this
      rw [if_pos h3]
      simp only [h5]
      simp [digitB]
  · rw [if_neg h3]

/-- The digits of a text, the least first. -/
def digs (m : List UInt8) : List Nat := m.reverse.map fun c => c.toNat - 48
theorem digs_val (m : List UInt8) : valD (digs m) = numFrom 0 m := by
  have h : ∀ r : List UInt8, valD (r.map fun c => c.toNat - 48) = numFrom 0 r.reverse := by
    intro r
    induction r with
    | nil => rfl
    | cons x r ih => simp only [List.map_cons, valD, List.reverse_cons, numFrom_snoc, ih]; omega
  have := h m.reverse
  rw [List.reverse_reverse] at this
  exact this
theorem digs_10 {m : List UInt8} (h : m.all digitB = true) : dig10 (digs m) := fun d hd => by
  unfold digs at hd
  obtain ⟨c, hc, rfl⟩ := List.mem_map.1 hd
  have := List.all_eq_true.1 h c (List.mem_reverse.1 hc)
  simp only [digitB, decide_eq_true_eq] at this
  omega
theorem digs_step (l : List UInt8) (j : Nat) (hj : j < l.length) : digs (l.drop j) = digs (l.drop (j + 1)) ++ [l[j].toNat - 48] := by
  unfold digs
  rw [List.drop_eq_getElem_cons hj, List.reverse_cons, List.map_append]
  rfl
theorem all_step (l : List UInt8) (j : Nat) (hj : j < l.length) : (l.drop j).all digitB = (digitB l[j] && (l.drop (j + 1)).all digitB) := by
  rw [List.drop_eq_getElem_cons hj, List.all_cons]
theorem all_not {l : List UInt8} {f j : Nat} (hf : f ≤ j) (hj : j < l.length) (h : digitB l[j] = false) : (l.drop f).all digitB = false := by
  rw [List.all_eq_false]
  refine ⟨l[j], ?_, by simp [h]⟩
  rw [List.mem_iff_getElem]
  exact ⟨j - f, by rw [List.length_drop]; omega, by rw [List.getElem_drop]; congr 1; omega⟩
theorem digs_len (m : List UInt8) : (digs m).length = m.length := by simp [digs]

theorem negB_list : ∀ (l : List UInt8) (h : 0 < l.length), negB l = decide (l[0] = 45)
  | c :: r, _ => by
    unfold negB
    by_cases hc : c = 45
    · subst hc; rw [hp_minus]; simp
    · rw [hp_other r hc]; simp [hc]
theorem negB_first (s : ByteArray) (h : 0 < s.size) : negB s.data.toList = decide (s[0] = 45) := negB_list s.data.toList (by simpa using h)
theorem from_le (l : List UInt8) : fromN l ≤ l.length := by
  unfold fromN
  by_cases h : negB l = true
  · rw [if_pos h]
    cases l with
    | nil => exact absurd h (by decide)
    | cons c r => simp
  · rw [if_neg h]; omega
theorem res_two {fn : Func} {t r : Tmp} {tmps : Array Value} {W : World} {g : Nat} {x y z : Value} (h : fn.results = #[.cell t 91, .tmp r]) (ha : tmps[t]?.getD undef = .pointer (some ⟨g, 0, none⟩)) (hz : tmps[r]?.getD undef = z) (hb : Bk W g #[x, y]) :
    (results fn tmps).run Tryd.prog W = .ok (.tuple #[.agg #[x, y], z]) W := by
  have q0 := hb.cell 0
  have q1 := hb.cell 1
  simp at q0 q1
  simp [results, h, go_sem, ha, hz, q0, q1]

theorem zero_n {w : World} : IsN w (.agg #[.bool false, .slice none 0 0]) 0 := ⟨[], ⟨_, rfl, DS.nil _ _⟩, dig10_nil, tidy_nil, rfl⟩

end Go.Proofs.YtmbaohjekeiphaaDoor
/- The law IntsParse: it returns true for every input. -/
namespace Go.Proofs.YtmbaohjekeiphaaDoor
open Go.RowKit

theorem dig_back : ∀ m : List UInt8, m.all digitB = true → (digs m).reverse.map (fun d => UInt8.ofNat (48 + d)) = m := by
  intro m h
  unfold digs
  rw [← List.map_reverse, List.reverse_reverse, List.map_map]
  conv => rhs; rw [← List.map_id m]
  refine List.map_congr_left fun c hc => ?_
  have hd := List.all_eq_true.1 h c hc
  simp only [digitB, decide_eq_true_eq] at hd
  simp only [Function.comp, id_eq]
  rw [← UInt8.toNat_inj, UInt8.toNat_ofNat']
  omega
theorem pre_drop : ∀ l : List UInt8, preB (negB l) ++ l.drop (fromN l) = l
  | [] => rfl
  | c :: r => by
    unfold fromN
    have h := negB_list (c :: r) (by simp)
    simp only [List.getElem_cons_zero] at h
    rw [h]
    by_cases hc : c = 45
    · subst hc; rfl
    · simp [hc, preB]
theorem from_lt {l : List UInt8} (h : isTextB l = true) : fromN l < l.length := by
  rcases Nat.lt_or_ge (fromN l) l.length with q | q
  · exact q
  · have := text_short (l := l) (by have := from_le l; omega)
    rw [this] at h; cases h
theorem itoa_text {l : List UInt8} (h : isTextB l = true) : Lib.itoa (valB l) = l := by
  have hlt := from_lt h
  by_cases h48 : (l[fromN l]'hlt).toNat = 48
  · by_cases h1 : 1 < l.length
    · rw [text_zero hlt h48 h1] at h; cases h
    · have h5 : fromN l = 0 := by omega
      obtain ⟨c, rfl⟩ := List.length_eq_one_iff.1 (show l.length = 1 by omega)
      have hc : c.toNat = 48 := by simpa [h5] using h48
      have : c = 48 := by rw [← UInt8.toNat_inj]; exact hc
      subst this
      exact itoa_zero
  · rw [text_digits hlt (.inl h48)] at h
    have hst := digs_step l (fromN l) hlt
    have hc := all_step l (fromN l) hlt
    rw [h] at hc
    have hc2 := (Bool.and_eq_true_iff.1 hc.symm).1
    simp only [digitB, decide_eq_true_eq] at hc2
    have ht : tidy (digs (l.drop (fromN l))) := by
      intro x r e
      rw [hst] at e
      have := (List.append_inj' e rfl).2
      simp only [List.cons.injEq, and_true] at this
      omega
    have hne : digs (l.drop (fromN l)) ≠ [] := by rw [hst]; simp
    have h0 : numFrom 0 (l.drop (fromN l)) ≠ 0 := by
      rw [← digs_val]; exact fun e => hne ((tidy_zero ht).1 e)
    rw [valB_sgv, itoa_of (digs_10 h) ht (by rw [sgv_abs, digs_val]) hne, sgv_neg _ _ h0, txt, dig_back _ h, pre_drop]
theorem text_lim {l : List UInt8} (h : isTextB l = true) (hl : l.length ≤ 100) : (valB l).natAbs < lim := by
  have hlt := from_lt h
  have hd : (l.drop (fromN l)).all digitB = true := by rw [← bare_drop]; exact (bare_digits h).2
  rw [valB_sgv, sgv_abs, ← digs_val]
  have h1 := valD_lt (digs_10 hd)
  rw [digs_len, List.length_drop] at h1
  unfold lim
  exact Nat.lt_of_lt_of_le h1 (Nat.pow_le_pow_right (by omega) (by omega))
end Go.Proofs.YtmbaohjekeiphaaDoor
