/- Digits, the least first, as1 lists of numbers: what they come to, and how that turns when a digit is laid behind them or struck. No program. -/
import Derived.Test.YtmbaohjekeiphaaGreatDoorQ0
import Derived.Deep.CutRange
import Derived.Deep.DeepCutAuto
import Derived.Deep.CutBlock
import Derived.Deep.QuietTactic
import Derived.BigQuiet
import Derived.Deep.RegionHeld3
import Derived.Deep.RegionLaw
import Derived.Deep.AppendLies
namespace Go.Proofs.YtmbaohjekeiphaaGreatDoor

def valD : List Nat → Nat
  | [] => 0
  | d :: r => d + 10 * valD r
def dig10 (ds : List Nat) : Prop := ∀ d ∈ ds, d < 10
theorem dig10_nil : dig10 [] := fun d hd => by cases hd
theorem dig10_snoc {ds : List Nat} (h : dig10 ds) {d : Nat} (hd : d < 10) : dig10 (ds ++ [d]) := fun x hx => by
  rcases List.mem_append.1 hx with h1 | h1
  · exact h x h1
  · rw [List.mem_singleton.1 h1]; exact hd
theorem dig10_take {ds : List Nat} (h : dig10 ds) (k : Nat) : dig10 (ds.take k) := fun x hx => h x (List.mem_of_mem_take hx)
theorem dig10_at {ds : List Nat} (h : dig10 ds) (k : Nat) : ds.getD k 0 < 10 := by
  rw [List.getD_eq_getElem?_getD]
  cases hk : ds[k]? with
  | none => simp
  | some x => simp; exact h x (List.mem_of_getElem? hk)
theorem valD_snoc (ds : List Nat) (d : Nat) : valD (ds ++ [d]) = valD ds + 10 ^ ds.length * d := by
  induction ds with
  | nil => simp [valD]
  | cons x r ih =>
    simp only [List.cons_append, valD, ih, List.length_cons, Nat.pow_succ, Nat.mul_add]
    have : 10 * (10 ^ r.length * d) = 10 ^ r.length * 10 * d := by rw [← Nat.mul_assoc, Nat.mul_comm 10]
    omega
theorem valD_lt {ds : List Nat} (h : dig10 ds) : valD ds < 10 ^ ds.length := by
  induction ds with
  | nil => simp [valD]
  | cons x r ih =>
    have h1 := h x (by simp)
    have h2 := ih fun d hd => h d (by simp [hd])
    simp only [valD, List.length_cons, Nat.pow_succ]
    omega
/-- What stands from place k on: its first digit, and ten times what stands behind. -/
theorem valD_drop (ds : List Nat) (k : Nat) : valD (ds.drop k) = ds.getD k 0 + 10 * valD (ds.drop (k + 1)) := by
  by_cases hk : k < ds.length
  · rw [List.drop_eq_getElem_cons hk, valD, List.getD_eq_getElem?_getD, List.getElem?_eq_getElem hk]; rfl
  · rw [List.drop_of_length_le (by omega), List.drop_of_length_le (by omega), List.getD_eq_getElem?_getD, List.getElem?_eq_none (by omega)]; rfl
theorem valD_zero {ds : List Nat} (h : ds.all (· == 0) = true) : valD ds = 0 := by
  induction ds with
  | nil => rfl
  | cons x r ih =>
    simp only [List.all_cons, Bool.and_eq_true, beq_iff_eq] at h
    simp only [valD, ih h.2, h.1]
/-- No zero at the end. -/
def tidy (ds : List Nat) : Prop := ∀ x r, ds = r ++ [x] → x ≠ 0
theorem tidy_nil : tidy [] := fun x r h => by simp at h
theorem tidy_lo {ds : List Nat} (ht : tidy ds) (hne : ds ≠ []) : 10 ^ (ds.length - 1) ≤ valD ds := by
  obtain ⟨r, x, rfl⟩ : ∃ r x, ds = r ++ [x] := ⟨ds.dropLast, ds.getLast hne, (List.dropLast_concat_getLast hne).symm⟩
  have := ht x r rfl
  rw [valD_snoc, List.length_append]
  simp only [List.length_cons, List.length_nil, Nat.zero_add, Nat.add_sub_cancel]
  have h1 : 10 ^ r.length * 1 ≤ 10 ^ r.length * x := Nat.mul_le_mul_left _ (by omega)
  omega
theorem tidy_zero {ds : List Nat} (ht : tidy ds) : valD ds = 0 ↔ ds = [] := by
  constructor
  · intro h
    by_cases hne : ds = []
    · exact hne
    · have h1 := tidy_lo ht hne
      have h2 : 0 < 10 ^ (ds.length - 1) := Nat.pow_pos (by omega)
      omega
  · rintro rfl; rfl
theorem tidy_len {ds : List Nat} (ht : tidy ds) {k : Nat} (h : valD ds < 10 ^ k) : ds.length ≤ k := by
  by_cases hne : ds = []
  · subst hne; simp
  · have h1 := tidy_lo ht hne
    rcases Nat.lt_or_ge k ds.length with h2 | h2
    · have h3 : 10 ^ k ≤ 10 ^ (ds.length - 1) := Nat.pow_le_pow_right (by omega) (by omega)
      omega
    · exact h2
/-- More digits, the greater number. -/
theorem valD_longer {as1 bs : List Nat} (ha : dig10 as1) (hb : tidy bs) (h : as1.length < bs.length) : valD as1 < valD bs := by
  have h1 := valD_lt ha
  have h2 := tidy_lo hb (by intro e; subst e; simp at h)
  have h3 : 10 ^ as1.length ≤ 10 ^ (bs.length - 1) := Nat.pow_le_pow_right (by omega) (by omega)
  omega
/-- The digits up to place k, and what stands from there on. -/
theorem valD_split (ds : List Nat) (k : Nat) (hk : k ≤ ds.length) : valD ds = valD (ds.take k) + 10 ^ k * valD (ds.drop k) := by
  induction k with
  | zero => simp [valD]
  | succ k ih =>
    rw [ih (by omega), List.take_succ_eq_append_getElem (by omega), valD_snoc, List.length_take, Nat.min_eq_left (by omega), valD_drop ds k, Nat.pow_succ, List.getD_eq_getElem?_getD, List.getElem?_eq_getElem (by omega)]
    simp only [Option.getD_some, Nat.mul_add]
    have : 10 ^ k * (10 * valD (ds.drop (k + 1))) = 10 ^ k * 10 * valD (ds.drop (k + 1)) := by rw [Nat.mul_assoc]
    omega
theorem take_strike {ds : List Nat} {k : Nat} (hk : k < ds.length) (h0 : ds.getD k 0 = 0) : valD (ds.take (k + 1)) = valD (ds.take k) := by
  rw [List.take_succ_eq_append_getElem hk, valD_snoc]
  have : ds[k] = 0 := by rw [List.getD_eq_getElem?_getD, List.getElem?_eq_getElem hk] at h0; simpa using h0
  rw [this, Nat.mul_zero, Nat.add_zero]
theorem tidy_take {ds : List Nat} {k : Nat} (hk : k < ds.length) (h0 : ds.getD k 0 ≠ 0) : tidy (ds.take (k + 1)) := fun x r h => by
  rw [List.take_succ_eq_append_getElem hk] at h
  have := (List.append_inj' h rfl).2
  simp only [List.cons.injEq, and_true] at this
  rw [List.getD_eq_getElem?_getD, List.getElem?_eq_getElem hk] at h0
  rw [← this]; simpa using h0
/-- Two rows that are alike above place k: their order is that of their digits there. -/
theorem less_at {as1 bs : List Nat} (ha : dig10 as1) (hb : dig10 bs) {k : Nat} (hka : k < as1.length) (hkb : k < bs.length) (hd : valD (as1.drop (k + 1)) = valD (bs.drop (k + 1))) (hne : as1.getD k 0 ≠ bs.getD k 0) :
    valD as1 < valD bs ↔ as1.getD k 0 < bs.getD k 0 := by
  rw [valD_split as1 k (by omega), valD_split bs k (by omega), valD_drop as1 k, valD_drop bs k, hd]
  have h1 := valD_lt (dig10_take ha k)
  have h2 := valD_lt (dig10_take hb k)
  rw [List.length_take, Nat.min_eq_left (by omega)] at h1 h2
  generalize valD (as1.take k) = p at *
  generalize valD (bs.take k) = q at *
  generalize valD (bs.drop (k + 1)) = R at *
  generalize as1.getD k 0 = x at *
  generalize bs.getD k 0 = y at *
  generalize 10 ^ k = P at *
  constructor
  · intro h
    rcases Nat.lt_or_ge x y with h3 | h3
    · exact h3
    · have h4 : P * (y + 1 + 10 * R) ≤ P * (x + 10 * R) := Nat.mul_le_mul_left _ (by omega)
      rw [show y + 1 + 10 * R = (y + 10 * R) + 1 by omega, Nat.mul_add, Nat.mul_one] at h4
      omega
  · intro h
    have h4 : P * (x + 1 + 10 * R) ≤ P * (y + 10 * R) := Nat.mul_le_mul_left _ (by omega)
    rw [show x + 1 + 10 * R = (x + 10 * R) + 1 by omega, Nat.mul_add, Nat.mul_one] at h4
    omega
theorem drop_at {as1 bs : List Nat} {k : Nat} (hd : valD (as1.drop (k + 1)) = valD (bs.drop (k + 1))) (he : as1.getD k 0 = bs.getD k 0) : valD (as1.drop k) = valD (bs.drop k) := by
  rw [valD_drop as1 k, valD_drop bs k, hd, he]
theorem drop_le (ds : List Nat) (k : Nat) (hk : k ≤ ds.length) : valD (ds.drop k) ≤ valD ds := by
  rw [valD_split ds k hk]
  have h1 : 1 * valD (ds.drop k) ≤ 10 ^ k * valD (ds.drop k) := Nat.mul_le_mul_right _ (Nat.pow_pos (by omega))
  omega
theorem valD_set (ds : List Nat) (d : Nat) : ∀ j, j < ds.length → valD (ds.set j d) + 10 ^ j * ds.getD j 0 = valD ds + 10 ^ j * d := by
  induction ds with
  | nil => intro j h; simp at h
  | cons x r ih =>
    intro j h
    rcases j with _ | j
    · simp [valD]; omega
    · have h1 := ih j (by simpa using h)
      simp only [List.set_cons_succ, valD, List.getD_cons_succ, Nat.pow_succ]
      have e1 : 10 ^ j * 10 * r.getD j 0 = 10 * (10 ^ j * r.getD j 0) := by rw [Nat.mul_right_comm, Nat.mul_comm]
      have e2 : 10 ^ j * 10 * d = 10 * (10 ^ j * d) := by rw [Nat.mul_right_comm, Nat.mul_comm]
      rw [e1, e2]
      omega
theorem dig10_set {ds : List Nat} (h : dig10 ds) {j d : Nat} (hd : d < 10) : dig10 (ds.set j d) := fun x hx => by
  rcases List.mem_or_eq_of_mem_set hx with h1 | h1
  · exact h x h1
  · rw [h1]; exact hd
theorem valD_take_succ (ds : List Nat) (k : Nat) : valD (ds.take (k + 1)) = valD (ds.take k) + 10 ^ k * ds.getD k 0 := by
  by_cases hk : k < ds.length
  · rw [List.take_succ_eq_append_getElem hk, valD_snoc, List.length_take, Nat.min_eq_left (by omega), List.getD_eq_getElem?_getD, List.getElem?_eq_getElem hk]; rfl
  · rw [List.take_of_length_le (by omega), List.take_of_length_le (by omega), List.getD_eq_getElem?_getD, List.getElem?_eq_none (by omega)]; simp
theorem getD_set_same (ds : List Nat) (j d : Nat) (h : j < ds.length) : (ds.set j d).getD j 0 = d := by
  rw [List.getD_eq_getElem?_getD, List.getElem?_set_self h]; rfl
theorem getD_set_other (ds : List Nat) {j k : Nat} (d : Nat) (h : j ≠ k) : (ds.set j d).getD k 0 = ds.getD k 0 := by
  rw [List.getD_eq_getElem?_getD, List.getD_eq_getElem?_getD, List.getElem?_set_ne h]
/-- One step of the product on paper: P is 10 to the i, R to the k. -/
theorem mul_step {o o' P R x y c c' d z V T s : Nat} (h : o + P * R * c = V + P * (x * T)) (hset : o' + P * R * z = o + P * R * d) (hs : s = z + x * y + c) (hd : d = s % 10) (hc : c' = s / 10) :
    o' + P * (R * 10) * c' = V + P * (x * (T + R * y)) := by
  have e1 : P * (R * 10) * c' = P * R * (10 * c') := by rw [← Nat.mul_assoc P R 10, Nat.mul_assoc (P * R)]
  have e2 : P * (x * (T + R * y)) = P * (x * T) + P * R * (x * y) := by
    rw [Nat.mul_add, Nat.mul_add, Nat.mul_left_comm x R y, ← Nat.mul_assoc P R]
  rw [e1, e2]
  have e3 : d + 10 * c' = z + x * y + c := by omega
  have e4 : P * R * (d + 10 * c') = P * R * (z + x * y + c) := by rw [e3]
  simp only [Nat.mul_add] at e4
  omega
/-- One step of the sum on paper: P is the place's power. -/
theorem sum_step {P o A B x y c V s : Nat} (h : o + P * (c + (x + 10 * A) + (y + 10 * B)) = V) (hs : s = x + y + c) : (o + P * (s % 10)) + P * 10 * (s / 10 + A + B) = V := by
  subst hs h
  have e : P * 10 * ((x + y + c) / 10 + A + B) = P * (10 * ((x + y + c) / 10 + A + B)) := Nat.mul_assoc _ _ _
  rw [e, Nat.add_assoc, ← Nat.mul_add]
  congr 2
  omega
end Go.Proofs.YtmbaohjekeiphaaGreatDoor
/- The reference's whole numbers in memory: what a slice of digits, and a number, read as1; and its small functions. -/
namespace Go.Proofs.YtmbaohjekeiphaaGreatDoor
open Go.RowKit

/-- The slice v reads as the digits ds: its cells are those of a row of bytes, in a block below B. -/
def DS (w : World) (B : Nat) (v : Value) (ds : List Nat) : Prop :=
  ∃ A c, v = .slice A ds.length c ∧ ds.length ≤ c ∧ c ≤ maxLen ∧ (0 < ds.length → ∃ b o cs fr, A = some ⟨b, o, none⟩ ∧ b < B ∧ w.heap[b]? = some (.cells cs 5 fr) ∧ ∀ i, i < ds.length → cs[o + i]? = some (.int .u8 ((ds.getD i 0 : Nat) : Int)))
theorem DS.nil (w : World) (B : Nat) : DS w B (.slice none 0 0) [] := ⟨none, 0, rfl, Nat.le_refl _, Nat.zero_le _, fun h => absurd h (by simp)⟩
theorem DS.nil' (w : World) (B : Nat) (A : Option Addr) {c : Nat} (h : c ≤ maxLen) : DS w B (.slice A 0 c) [] := ⟨A, c, rfl, Nat.zero_le _, h, fun h => absurd h (by simp)⟩
theorem DS.keep {w w' : World} {B B' : Nat} {v : Value} {ds : List Nat} (h : DS w B v ds) (hB : B ≤ B') (hk : ∀ b, b < B → w'.heap[b]? = w.heap[b]?) : DS w' B' v ds := by
  obtain ⟨A, c, hv, hl, hm, hc⟩ := h
  refine ⟨A, c, hv, hl, hm, fun h0 => ?_⟩
  obtain ⟨b, o, cs, fr, ha, hb, hh, hcell⟩ := hc h0
  exact ⟨b, o, cs, fr, ha, by omega, (hk b hb).trans hh, hcell⟩
theorem DS.below {w w' : World} {B : Nat} {v : Value} {ds : List Nat} (h : DS w w.heap.size v ds) (hb : Below B w w') (hB : w.heap.size ≤ B) : DS w' w'.heap.size v ds :=
  h.keep hb.size fun b hb' => hb.block b (by omega)
theorem DS.old {w : World} {B : Nat} {v : Value} {ds : List Nat} (h : DS w B v ds) :
    ∃ A c, v = .slice A ds.length c ∧ ds.length ≤ c ∧ c ≤ maxLen ∧ (0 < ds.length → ∃ b o, A = some ⟨b, o, none⟩ ∧ b < B ∧ ∀ i, i < ds.length → w.cell? ⟨b, o + i, none⟩ = some (.int .u8 ((ds.getD i 0 : Nat) : Int))) := by
  obtain ⟨A, c, hv, hl, hm, hc⟩ := h
  refine ⟨A, c, hv, hl, hm, fun h0 => ?_⟩
  obtain ⟨b, o, cs, fr, ha, hb, hh, hcell⟩ := hc h0
  exact ⟨b, o, ha, hb, fun i hi => by rw [cell_of_row w b (o + i) cs _ fr hh]; exact hcell i hi⟩
theorem DS.take {w : World} {B : Nat} {A : Option Addr} {n c : Nat} {ds : List Nat} (h : DS w B (.slice A n c) ds) {k : Nat} (hk : k ≤ ds.length) : DS w B (.slice A k c) (ds.take k) := by
  obtain ⟨A1, c1, hv, hl, hm, hc⟩ := h
  injection hv with h1 h2 h3
  subst h1 h3
  have hlt : (ds.take k).length = k := by rw [List.length_take]; omega
  refine ⟨A, c, by rw [hlt], by omega, hm, fun h0 => ?_⟩
  obtain ⟨b, o, cs, fr, ha, hb, hh, hcell⟩ := hc (by omega)
  refine ⟨b, o, cs, fr, ha, hb, hh, fun i hi => ?_⟩
  rw [hlt] at hi
  rw [hcell i (by omega), List.getD_eq_getElem?_getD, List.getD_eq_getElem?_getD, List.getElem?_take_of_lt hi]

/-- The number v reads as the sign and the digits. -/
def NR (w : World) (v : Value) (neg : Bool) (ds : List Nat) : Prop := ∃ u, v = .agg #[.bool neg, u] ∧ DS w w.heap.size u ds
theorem NR.below {w w' : World} {v : Value} {neg : Bool} {ds : List Nat} (h : NR w v neg ds) (hb : Below w.heap.size w w') : NR w' v neg ds := by
  obtain ⟨u, hv, hu⟩ := h
  exact ⟨u, hv, hu.below hb (Nat.le_refl _)⟩
/-- The number v is the whole number z. -/
def IsN (w : World) (v : Value) (z : Int) : Prop := ∃ ds, NR w v (decide (z < 0)) ds ∧ dig10 ds ∧ tidy ds ∧ valD ds = z.natAbs
/-- The whole number of a sign and a size. -/
def sgv (neg : Bool) (n : Nat) : Int := if neg then -(n : Int) else n
theorem sgv_abs (neg : Bool) (n : Nat) : (sgv neg n).natAbs = n := by unfold sgv; cases neg <;> simp
theorem sgv_neg (neg : Bool) (n : Nat) (h : n ≠ 0) : decide (sgv neg n < 0) = neg := by unfold sgv; cases neg <;> simp <;> omega
theorem IsN.mk {w : World} {v : Value} {neg : Bool} {ds : List Nat} (h : NR w v neg ds) (hd : dig10 ds) (ht : tidy ds) (hne : ds ≠ []) : IsN w v (sgv neg (valD ds)) := by
  have h0 : valD ds ≠ 0 := fun e => hne ((tidy_zero ht).1 e)
  exact ⟨ds, by rw [sgv_neg _ _ h0]; exact h, hd, ht, by rw [sgv_abs]⟩
theorem IsN.mk0 {w : World} {v : Value} (neg : Bool) (h : NR w v false []) : IsN w v (sgv neg 0) :=
  ⟨[], by have : sgv neg 0 = 0 := by unfold sgv; cases neg <;> rfl
          rw [this]; exact h, dig10_nil, tidy_nil, by rw [sgv_abs]; rfl⟩
theorem IsN.below {w w' : World} {v : Value} {z : Int} (h : IsN w v z) (hb : Below w.heap.size w w') : IsN w' v z := by
  obtain ⟨ds, h1, h2⟩ := h
  exact ⟨ds, h1.below hb, h2⟩

theorem digit_any (v : Value) (ds : List Nat) (k : Nat) (w : World) (h : DS w w.heap.size v ds) (hk : k ≤ 1000000000) (hd : dig10 ds) :
    Calls Tryz.prog 76 #[v, .int .i64 k] w fun e w' => e = .returned (.int .i64 ((ds.getD k 0 : Nat) : Int)) ∧ w = w' := by
  obtain ⟨A, c, rfl, hl, hm, hc⟩ := h.old
  unfold maxLen at hm
  by_cases hlt : k < ds.length
  · obtain ⟨b, o, rfl, hb, hcell⟩ := hc (by omega)
    have hck := hcell k hlt
    have h10 := dig10_at hd k
    generalize ds.getD k 0 = x at *
    clear hcell hc hd
    go_enter Tryz.func76, Tryz.ntmps76
    go_wp2
    go_ret
    exact ⟨rfl, rfl⟩
  · have h0 : ds.getD k 0 = 0 := by rw [List.getD_eq_getElem?_getD, List.getElem?_eq_none (by omega)]; rfl
    rw [h0]
    clear h0 hc hd
    go_enter Tryz.func76, Tryz.ntmps76
    go_wp2
    go_ret
    exact ⟨rfl, rfl⟩

/-- A block that is known whole. -/
def Bk (w : World) (g : Nat) (cs : Array Value) : Prop := w.heap[g]? = some (.cells cs 80 (0, 0))
section
variable {w w' : World} {g : Nat} {cs : Array Value}
theorem Bk.cell (h : Bk w g cs) (i : Nat) : w.cell? ⟨g, i, none⟩ = cs[i]? := cell_of_row w g i cs _ (0, 0) h
theorem Bk.frozen (h : Bk w g cs) (i : Nat) : w.frozen? ⟨g, i, none⟩ = false := by
  unfold Bk at h
  simp [World.frozen?, h]
theorem Bk.lt (h : Bk w g cs) : g < w.heap.size := by
  rcases Nat.lt_or_ge g w.heap.size with h' | h'
  · exact h'
  · unfold Bk at h; rw [Array.getElem?_eq_none h'] at h; cases h
theorem Bk.new (w : World) (cs : Array Value) : Bk (w.alloc (.cells cs 80)) w.heap.size cs := heap_alloc_new w _
theorem Bk.alloc (h : Bk w g cs) (o : Obj) : Bk (w.alloc o) g cs := (Below.heap_alloc w o g h.lt).trans h
theorem Bk.put (h : Bk w g cs) (i : Nat) (u : Value) : Bk (w.setCell ⟨g, i, none⟩ u) g (cs.setIfInBounds i u) := by
  unfold Bk at h ⊢
  simp [World.setCell, Array.getElem?_modify, h]
theorem Bk.far (h : Bk w g cs) {p : Addr} (hp : g ≠ p.block) (u : Value) : Bk (w.setCell p u) g cs := (Below.heap_setCell w p u g hp).trans h
theorem Bk.below {B : Nat} (h : Bk w g cs) (hb : Below B w w') (hg : g < B) : Bk w' g cs := (hb.block g hg).trans h
theorem Bk.drewN (h : Bk w g cs) (n : Nat) : Bk (w.drewN n) g cs := h
theorem Bk.grown {row : Option Nat} (h : Bk w g cs) (hb : w.grownBy w' row) (hg : some g ≠ row) : Bk w' g cs := (hb.block g h.lt hg).trans h
end

theorem DS.put {w : World} {B : Nat} {v : Value} {ds : List Nat} (h : DS w B v ds) {g : Nat} {cs : Array Value} (hg : Bk w g cs) (i : Nat) (u : Value) : DS (w.setCell ⟨g, i, none⟩ u) B v ds := by
  obtain ⟨A, c, hv, hl, hm, hc⟩ := h
  refine ⟨A, c, hv, hl, hm, fun h0 => ?_⟩
  obtain ⟨b, o, cs', fr, ha, hb, hh, hcell⟩ := hc h0
  refine ⟨b, o, cs', fr, ha, hb, (Below.heap_setCell w _ u b ?_).trans hh, hcell⟩
  rintro rfl
  unfold Bk at hg
  rw [hg] at hh
  injection hh with hh
  injection hh with _ ht _
  exact absurd ht (by decide)
theorem NR.put {w : World} {v : Value} {neg : Bool} {ds : List Nat} (h : NR w v neg ds) {g : Nat} {cs : Array Value} (hg : Bk w g cs) (i : Nat) (u : Value) : NR (w.setCell ⟨g, i, none⟩ u) v neg ds := by
  obtain ⟨x, hv, hx⟩ := h
  refine ⟨x, hv, ?_⟩
  have := hx.put hg i u
  simpa [World.setCell] using this
theorem IsN.put {w : World} {v : Value} {z : Int} (h : IsN w v z) {g : Nat} {cs : Array Value} (hg : Bk w g cs) (i : Nat) (u : Value) : IsN (w.setCell ⟨g, i, none⟩ u) v z := by
  obtain ⟨ds, h1, h2⟩ := h
  exact ⟨ds, h1.put hg i u, h2⟩
/-- A whole number's value, written out. -/
theorem IsN.form {w : World} {v : Value} {z : Int} (h : IsN w v z) : ∃ b A n c, v = .agg #[.bool b, .slice A n c] := by
  obtain ⟨ds, ⟨u, rfl, A, c, rfl, _⟩, _⟩ := h
  exact ⟨_, _, _, _, rfl⟩

theorem res_struct {fn : Func} {t : Tmp} {tmps : Array Value} {W : World} {g : Nat} {x y : Value} (h : fn.results = #[.cell t 80]) (ha : tmps[t]?.getD undef = .pointer (some ⟨g, 0, none⟩)) (hb : Bk W g #[x, y]) :
    (results fn tmps).run Tryz.prog W = .ok (.agg #[x, y]) W := by
  have q0 := hb.cell 0
  have q1 := hb.cell 1
  simp at q0 q1
  simp [results, h, go_sem, ha, q0, q1]

set_option maxHeartbeats 400000 in
theorem trim_any (v : Value) (neg : Bool) (ds : List Nat) (w : World) (h : NR w v neg ds) (hd : dig10 ds) (hlen : ds.length ≤ 1000000) :
    Calls Tryz.prog 77 #[v] w fun e w' => ∃ u, e = .returned u ∧ IsN w' u (sgv neg (valD ds)) ∧ Below w.heap.size w w' := by
  obtain ⟨u, rfl, hds⟩ := h
  obtain ⟨A, c, rfl, hl, hm, hc⟩ := hds.old
  have HM := Lib.hid hm
  clear hm
  go_enter Tryz.func77, Tryz.ntmps77
  go_wp2_with fail
  have b0 : Bk ((w.alloc (Obj.cells #[Value.bool neg, Value.slice A ds.length c] 80)).alloc (Obj.cells #[Value.bool false, Value.slice none 0 0] 80)) w.heap.size #[.bool neg, .slice A ds.length c] := (Bk.new _ _).alloc _
  have b1 : Bk ((w.alloc (Obj.cells #[Value.bool neg, Value.slice A ds.length c] 80)).alloc (Obj.cells #[Value.bool false, Value.slice none 0 0] 80)) (w.heap.size + 1) #[.bool false, .slice none 0 0] := by
    have := Bk.new (w.alloc (Obj.cells #[Value.bool neg, Value.slice A ds.length c] 80)) #[Value.bool false, Value.slice none 0 0]
    simpa using this
  have hb : Below w.heap.size w ((w.alloc (Obj.cells #[Value.bool neg, Value.slice A ds.length c] 80)).alloc (Obj.cells #[Value.bool false, Value.slice none 0 0] 80)) := ((Below.refl _ _).alloc (Nat.le_refl _) _).alloc (by simp) _
  generalize (w.alloc (Obj.cells #[Value.bool neg, Value.slice A ds.length c] 80)).alloc (Obj.cells #[Value.bool false, Value.slice none 0 0] 80) = W at *
  go_loopg [] ds.length (fun k wr => k ≤ ds.length ∧ Hid (valD (ds.take k) = valD ds) ∧ Bk wr w.heap.size #[.bool neg, .slice A k c] ∧ Bk wr (w.heap.size + 1) #[.bool false, .slice none 0 0] ∧ Below w.heap.size w wr)
  case atStart => exact ⟨Nat.le_refl _, by rw [List.take_length]; exact rfl, b0, b1, hb⟩
  case round =>
    obtain ⟨hk, hv, r0, r1, hbr⟩ := hrel
    clear b0 b1 hb
    have f0 := r0.cell 0
    have f1 := r0.cell 1
    have f2 := r0.frozen 1
    have f5 := r0.frozen 0
    have f6 := r1.frozen 0
    have f7 := r1.frozen 1
    have f3 := r1.cell 0
    have f4 := r1.cell 1
    simp at f0 f1 f3 f4
    by_cases h0 : gk = 0
    · subst h0
      have HV : Hid (sgv neg (valD ds) = sgv neg 0) := congrArg (sgv neg) hv.out.symm
      clear hc hv
      go_wp2_with fail
      refine bodyPost_ret (res_struct (g := w.heap.size + 1) rfl rfl (by simpa using ((r1.far (p := ⟨w.heap.size, 0, none⟩) (by simp) _).put 0 (.bool false)).put 1 (.slice A 0 c))) rfl ?_
      refine ⟨_, rfl, ?_, ?_⟩
      · rw [HV.out]
        exact IsN.mk0 neg ⟨_, rfl, DS.nil' _ _ _ HM.out⟩
      · go_grown
    · obtain ⟨j, rfl⟩ : ∃ j, gk = j + 1 := ⟨gk - 1, by omega⟩
      obtain ⟨b, o, rfl, hbb, hcell⟩ := hc (by omega)
      have h10 := dig10_at hd j
      have fj := (hbr.cell (p := ⟨b, o + j, none⟩) hbb).trans (hcell j (by omega))
      by_cases hz : ds.getD j 0 = 0
      · have hst := take_strike (ds := ds) (k := j) (by omega) hz
        rw [hz] at fj
        simp at fj
        have HV : Hid (valD (ds.take j) = valD ds) := hst.symm.trans hv.out
        clear hst hz h10 hcell hc hv
        go_wp2_with fail
        go_roundg j
        case rel => exact ⟨by omega, HV, by simpa using r0.put 1 (.slice (some ⟨b, o, none⟩) j c), r1.far (by simp) _, hbr.setCell (Nat.le_refl _) _⟩
        case measure => omega
      · have hti := tidy_take (ds := ds) (k := j) (by omega) hz
        have HT := Lib.hid hti
        have HC := Lib.hid hcell
        have h1 : (((ds.getD j 0 : Nat) : Int) == 0) = false := by rw [beq_eq_false_iff_ne]; omega
        generalize ds.getD j 0 = x at *
        clear hz hcell hc hti
        go_wp2_with fail
        refine bodyPost_ret (res_struct (g := w.heap.size + 1) rfl rfl (by simpa using (r1.put 0 (.bool neg)).put 1 (.slice (some ⟨b, o, none⟩) (j + 1) c))) rfl ?_
        refine ⟨_, rfl, ?_, ?_⟩
        · rw [← hv.out]
          have hlt : (ds.take (j + 1)).length = j + 1 := by rw [List.length_take]; omega
          have hb' : Below w.heap.size w ((wr.setCell ⟨w.heap.size + 1, 0, none⟩ (.bool neg)).setCell ⟨w.heap.size + 1, 1, none⟩ (.slice (some ⟨b, o, none⟩) (j + 1) c)) := by go_grown
          exact IsN.mk (neg := neg) ⟨_, rfl, (hds.take (k := j + 1) hk).keep hb'.size fun b hb => hb'.block b hb⟩ (dig10_take hd _) HT.out (by intro h; rw [h] at hlt; simp at hlt)
        · go_grown
end Go.Proofs.YtmbaohjekeiphaaGreatDoor
/- The reference's numbers: Of, and what an appended row of digits reads as1. -/
namespace Go.Proofs.YtmbaohjekeiphaaGreatDoor
open Go.RowKit

def cellsD (ds : List Nat) : List Value := ds.map fun d => Value.int .u8 ((d : Nat) : Int)
theorem cellsD_snoc (ds : List Nat) (d : Nat) : cellsD (ds ++ [d]) = cellsD ds ++ [Value.int .u8 (d : Int)] := by simp [cellsD]
theorem cellsD_len (ds : List Nat) : (cellsD ds).length = ds.length := by simp [cellsD]
theorem DS.of_own {w : World} {base : Nat} {v : Value} {ds : List Nat} (h : w.ownsRow base 5 1 v ds.length (cellsD ds)) : DS w w.heap.size v ds := by
  rcases h.2 with ⟨rfl, h0⟩ | ⟨g, cap, cur, rfl, hg, hh, hn, hc, hs, ht⟩
  · have : ds = [] := List.eq_nil_of_length_eq_zero h0
    subst this; exact DS.nil _ _
  · refine ⟨some ⟨g, 0, none⟩, cap, rfl, hn, hc, fun _ => ⟨g, 0, cur, _, rfl, ?_, hh, fun i hi => ?_⟩⟩
    · rcases Nat.lt_or_ge g w.heap.size with h' | h'
      · exact h'
      · rw [Array.getElem?_eq_none h'] at hh; cases hh
    · rw [Nat.zero_add]
      have h1 : (cur.toList.take (ds.length * 1))[i]? = (cellsD ds)[i]? := by rw [ht]
      rw [List.getElem?_take_of_lt (by omega), Array.getElem?_toList] at h1
      rw [h1]
      simp [cellsD, List.getElem?_map, List.getD_eq_getElem?_getD, List.getElem?_eq_getElem hi]

theorem own_setN {w : World} {base : Nat} {e : TypeId} {size n : Nat} {v : Value} {xs : List Value} (h : w.ownsRow base e size v n xs) {a : Addr} (ha : a.block < base) (u : Value) : (w.setCell a u).ownsRow base e size v n xs := ownsRow_setCell_below h ha u
theorem infoU8 : (Tryz.prog.info? 5).map (fun i => (i.zero, i.size, i.bytes)) = some (some (.int .u8 0), 1, 1) := by kernel_rfl

theorem pow_bound {k m n : Nat} (h : 10 ^ k * m ≤ n) (hm : 1 ≤ m) (hn : n < 10 ^ 19) : k ≤ 18 := by
  rcases Nat.lt_or_ge 18 k with h1 | h1
  · have h2 : 10 ^ 19 ≤ 10 ^ k := Nat.pow_le_pow_right (by omega) h1
    have h3 : 10 ^ k * 1 ≤ 10 ^ k * m := Nat.mul_le_mul_left _ hm
    omega
  · exact h1
/-- One round of Of. -/
theorem of_step {os : List Nat} {m N : Nat} (h : valD os + 10 ^ os.length * m = N) : valD (os ++ [m % 10]) + 10 ^ (os ++ [m % 10]).length * (m / 10) = N := by
  rw [valD_snoc, List.length_append, List.length_cons, List.length_nil, Nat.zero_add, Nat.pow_succ, Nat.mul_assoc, Nat.add_assoc, ← Nat.mul_add]
  rw [← h]
  congr 2
  omega
theorem tidy_snoc {os : List Nat} {d : Nat} (h : d ≠ 0) : tidy (os ++ [d]) := fun x r e => by
  have := (List.append_inj' e rfl).2
  simp only [List.cons.injEq, and_true] at this
  rw [← this]; exact h

/-- What holds of the digits of Of before each round: q is what is left. -/
def OfInv (N : Nat) (neg : Bool) (q : Int) (os : List Nat) : Prop := valD os + 10 ^ os.length * q.natAbs = N ∧ dig10 os ∧ (q = 0 → tidy os) ∧ (q ≠ 0 → decide (q < 0) = neg)

set_option maxHeartbeats 800000 in
set_option maxRecDepth 100000 in
theorem of_any (n : Int) (w : World) (h0 : -9223372036854775808 ≤ n) (h1 : n ≤ 9223372036854775807) :
    Calls Tryz.prog 56 #[.int .i64 n] w fun e w' => ∃ u, e = .returned u ∧ IsN w' u n ∧ Below w.heap.size w w' := by
  obtain ⟨i0, hi, hz0, hz1, hz2⟩ := info_parts infoU8
  go_enter Tryz.func56, Tryz.ntmps56
  go_wp2_with fail
  have b0 : Bk ((w.alloc (Obj.cells #[Value.bool false, Value.slice none 0 0] 80)).alloc (Obj.cells #[Value.bool (decide (n < 0)), Value.slice none 0 0] 80)) w.heap.size #[.bool false, .slice none 0 0] := (Bk.new _ _).alloc _
  have b1 : Bk ((w.alloc (Obj.cells #[Value.bool false, Value.slice none 0 0] 80)).alloc (Obj.cells #[Value.bool (decide (n < 0)), Value.slice none 0 0] 80)) (w.heap.size + 1) #[.bool (decide (n < 0)), .slice none 0 0] := by
    have := Bk.new (w.alloc (Obj.cells #[Value.bool false, Value.slice none 0 0] 80)) #[Value.bool (decide (n < 0)), Value.slice none 0 0]
    simpa using this
  have hb : Below w.heap.size w ((w.alloc (Obj.cells #[Value.bool false, Value.slice none 0 0] 80)).alloc (Obj.cells #[Value.bool (decide (n < 0)), Value.slice none 0 0] 80)) := ((Below.refl _ _).alloc (Nat.le_refl _) _).alloc (by simp) _
  have hs : w.heap.size + 2 ≤ ((w.alloc (Obj.cells #[Value.bool false, Value.slice none 0 0] 80)).alloc (Obj.cells #[Value.bool (decide (n < 0)), Value.slice none 0 0] 80)).heap.size := by simp
  generalize (w.alloc (Obj.cells #[Value.bool false, Value.slice none 0 0] 80)).alloc (Obj.cells #[Value.bool (decide (n < 0)), Value.slice none 0 0] 80) = W at *
  generalize hneg : decide (n < 0) = neg at *
  have HN := Lib.hid hneg
  clear hneg
  go_loopw [0] (fun x wr => ∃ (m : Int) (os : List Nat) (v : Value), x = .int .i64 m ∧ -9223372036854775808 ≤ m ∧ m ≤ 9223372036854775807 ∧
      OfInv n.natAbs neg m os ∧
      Bk wr w.heap.size #[.bool false, .slice none 0 0] ∧ Bk wr (w.heap.size + 1) #[.bool neg, v] ∧ wr.ownsRow (w.heap.size + 2) 5 1 v os.length (cellsD os) ∧ w.heap.size + 2 ≤ wr.heap.size ∧ Below w.heap.size w wr)
    (fun x _ => (intOf x).natAbs)
  case atStart => exact ⟨n, [], _, rfl, h0, h1, ⟨by simp [valD], dig10_nil, fun _ => tidy_nil, fun _ => HN.out⟩, b0, b1, World.ownsRow_nil _ _ _ _, hs, hb⟩
  case round =>
    obtain ⟨m, os, v, rfl, hm0, hm1, hm, r0, r1, hown, hs1, hbr⟩ := hrel
    clear b0 b1 hb hs
    have f0 := r0.cell 0
    have f1 := r0.cell 1
    have f2 := r0.frozen 0
    have f3 := r0.frozen 1
    have f4 := r1.cell 0
    have f5 := r1.cell 1
    have f6 := r1.frozen 0
    have f7 := r1.frozen 1
    simp at f0 f1 f4 f5
    by_cases hz : m = 0
    · subst hz
      have hds := DS.of_own hown
      obtain ⟨A, c, rfl, hds1⟩ := id hds
      have HF : Hid (sgv neg (valD os) = n ∧ dig10 os ∧ tidy os ∧ (os = [] → n = 0 ∧ neg = false)) := by
        obtain ⟨e1, e2, e3, _⟩ := hm
        rw [show (0 : Int).natAbs = 0 from rfl, Nat.mul_zero, Nat.add_zero] at e1
        have hn := HN.out
        refine ⟨?_, e2, e3 rfl, ?_⟩
        · unfold sgv; rw [e1, ← hn]; by_cases hx : n < 0 <;> simp [hx] <;> omega
        · rintro rfl
          have : n = 0 := by simp [valD] at e1; omega
          exact ⟨this, by rw [← hn, this]; rfl⟩
      clear hm hds1
      go_wp2_with fail
      refine bodyPost_ret (res_struct (g := w.heap.size) rfl rfl (by simpa using (r0.put 0 (.bool neg)).put 1 (.slice A os.length c))) rfl ?_
      have hbb : Below wr.heap.size wr wr := Below.refl _ _
      refine ⟨_, rfl, ?_, ?_⟩
      · obtain ⟨e1, e2, e3, e4⟩ := HF.out
        have hnr : NR ((wr.setCell ⟨w.heap.size, 0, none⟩ (.bool neg)).setCell ⟨w.heap.size, 1, none⟩ (.slice A os.length c)) (.agg #[.bool neg, .slice A os.length c]) neg os :=
          ⟨_, rfl, DS.of_own (own_setN (own_setN hown (by simp) _) (by simp) _)⟩
        by_cases he : os = []
        · obtain ⟨rfl, rfl⟩ := e4 he
          subst he
          exact IsN.mk0 false hnr
        · rw [← e1]; exact IsN.mk hnr e2 e3 he
      · go_grown
    · obtain ⟨dd, hdd⟩ : ∃ dd, dd = m.natAbs % 10 := ⟨_, rfl⟩
      obtain ⟨qq, hqq⟩ : ∃ qq, qq = m.natAbs / 10 := ⟨_, rfl⟩
      have hd9 : dd ≤ 9 := by omega
      have hlen : os.length ≤ 18 := pow_bound (n := n.natAbs) (m := m.natAbs) (by have := hm.1; omega) (by omega) (by omega)
      have hnz : (m != 0) = true := by rw [bne_iff_ne]; exact hz
      have h3 : (m < 0 ∧ 1 ≤ dd ∧ m.tmod 10 = -(dd : Int) ∧ m.tdiv 10 = -(qq : Int)) ∨ (m < 0 ∧ 0 ≤ dd ∧ m.tmod 10 = dd ∧ m.tdiv 10 = -(qq : Int)) ∨ (0 < m ∧ m.tmod 10 = dd ∧ m.tdiv 10 = qq) := by
        by_cases hp : 0 < m
        · refine .inr (.inr ⟨hp, ?_, ?_⟩)
          · rw [Int.tmod_eq_emod_of_nonneg (by omega)]; omega
          · rw [Int.tdiv_eq_ediv_of_nonneg (by omega)]; omega
        · obtain ⟨p, rfl⟩ : ∃ p : Int, m = -p := ⟨-m, by omega⟩
          have e1 : (-p).tmod 10 = -(dd : Int) := by rw [Int.neg_tmod, Int.tmod_eq_emod_of_nonneg (by omega)]; omega
          have e2 : (-p).tdiv 10 = -(qq : Int) := by rw [Int.neg_tdiv, Int.tdiv_eq_ediv_of_nonneg (by omega)]; omega
          by_cases hd0 : dd = 0
          · exact .inr (.inl ⟨by omega, by omega, by rw [e1, hd0]; rfl, e2⟩)
          · exact .inl ⟨by omega, by omega, e1, e2⟩
      have HH : Hid (dd = m.natAbs % 10 ∧ qq = m.natAbs / 10 ∧ m ≠ 0) := ⟨hdd, hqq, hz⟩
      have hq9 : qq ≤ 922337203685477580 := by omega
      clear hdd hqq hz
      have hne : ∀ g, g < w.heap.size + 2 → some g ≠ v.ownBlock := fun g hg e => by have := (hown.lt g e.symm).1; omega
      have hrow : ∀ k, v.ownBlock = some k → w.heap.size + 2 ≤ k := fun k e => (hown.lt k e).1
      have HQ : Hid (∀ q : Int, (q = qq ∧ 0 < m) ∨ (q = -(qq : Int) ∧ m < 0) → q.natAbs < m.natAbs ∧ -9223372036854775808 ≤ q ∧ q ≤ 9223372036854775807 ∧
          OfInv n.natAbs neg q (os ++ [dd])) := by
        intro q hq
        obtain ⟨e1, e2, e3⟩ := HH.out
        have hqa : q.natAbs = m.natAbs / 10 := by omega
        have hsn : decide (q < 0) = decide (m < 0) ∨ q = 0 := by
          by_cases hq0 : q = 0
          · exact .inr hq0
          · left; rw [decide_eq_decide]; omega
        refine ⟨by omega, by omega, by omega, ?_, dig10_snoc hm.2.1 (by omega), fun h0 => tidy_snoc (by omega), fun h0 => ?_⟩
        · rw [hqa, e1]; exact of_step hm.1
        · rw [← hm.2.2.2 e3]
          rcases hsn with h | h
          · exact h
          · exact absurd h h0
      have HM := Lib.hid hne
      have HW := Lib.hid hrow
      clear hm hne hrow
      rcases h3 with ⟨hsg, hd0, ht, hq⟩ | ⟨hsg, hd0, ht, hq⟩ | ⟨hsg, ht, hq⟩
      all_goals
        have HS := Lib.hid hsg
        clear hsg hm0 hm1 HH
        go_wp2_with (at_builtin; refine wpList_append_own _ rfl _ _ 78 rfl (w.heap.size + 2) 5 i0 (.int .u8 0) 1 1 Tryz.underlying78 hi hz0 hz1 hz2 rfl (by decide) _ _ _ rfl (hown.alloc _) ⟨wr.heap.size, 0, none⟩ 1 1 [.int .u8 (dd : Int)] rfl rfl ?c1 ?c2 ?c3 ?c4 ?c5 ?_)
        case c1 => exact cell_one_new _ _ _
        case c2 => intro u hu; rw [List.mem_singleton.1 hu]; rfl
        case c3 => unfold maxLen; omega
        case c4 => omega
        case c5 => simp; omega
        intro v' w1 hown1 hg1 _
        rw [← cellsD_snoc] at hown1
        have hlo : (os ++ [dd]).length = os.length + 1 := by simp
        rw [← hlo] at hown1
        have q0 : Bk w1 w.heap.size #[.bool false, .slice none 0 0] := (r0.alloc _).grown hg1 (HM.out _ (by omega))
        have q1 : Bk w1 (w.heap.size + 1) #[.bool neg, v] := (r1.alloc _).grown hg1 (HM.out _ (by omega))
        have hb1 : Below w.heap.size w w1 := (hbr.alloc (by omega) _).grown hg1 (by simp; omega) (fun k hk => by have := HW.out k hk; omega)
        have hs2 : w.heap.size + 2 ≤ w1.heap.size := by have := hg1.size; simp at this; omega
        obtain ⟨A, c, rfl, _⟩ := id (DS.of_own hown1)
        clear hown hg1 r0 r1 hbr f0 f1 f2 f3 f4 f5 f6 f7 hlo hs1
        have f4 := q1.cell 0
        have f5 := q1.cell 1
        have f6 := q1.frozen 0
        have f7 := q1.frozen 1
        simp at f4 f5
        go_wp2_with fail
        obtain ⟨q, hqe, hqm, hq1, hq2, hqh⟩ : ∃ q : Int, ((Value.int .i64 q = .int .i64 (-(qq : Int)) ∧ m < 0) ∨ (Value.int .i64 q = .int .i64 qq ∧ 0 < m)) ∧ q.natAbs < m.natAbs ∧ -9223372036854775808 ≤ q ∧ q ≤ 9223372036854775807 ∧ OfInv n.natAbs neg q (os ++ [dd]) := by
          first
          | exact ⟨-(qq : Int), .inl ⟨rfl, HS.out⟩, HQ.out _ (.inr ⟨rfl, HS.out⟩)⟩
          | exact ⟨qq, .inr ⟨rfl, HS.out⟩, HQ.out _ (.inl ⟨rfl, HS.out⟩)⟩
        have hqv : q = -(qq : Int) ∨ q = qq := by
          rcases hqe with ⟨h, _⟩ | ⟨h, _⟩
          · left; injection h
          · right; injection h
        go_roundw
        case rel =>
          refine ⟨q, os ++ [dd], .slice A (os ++ [dd]).length c, ?_, hq1, hq2, hqh, q0.far (by simp) _, by simpa using q1.put 1 (.slice A (os ++ [dd]).length c), own_setN hown1 (by simp) _, by simpa [World.setCell] using hs2, hb1.setCell (by simp) _⟩
          rcases hqe with ⟨h, hx⟩ | ⟨h, hx⟩
          · first | exact h.symm | (exfalso; have := HS.out; omega)
          · first | exact h.symm | (exfalso; have := HS.out; omega)
        case measure =>
          simp [intOf]
          rcases hqe with ⟨h, hx⟩ | ⟨h, hx⟩
          · injection h with _ h; omega
          · injection h with _ h; omega
end Go.Proofs.YtmbaohjekeiphaaGreatDoor
/- The reference's order of sizes, and its sum. -/
namespace Go.Proofs.YtmbaohjekeiphaaGreatDoor
open Go.RowKit

theorem DS.len {w : World} {B : Nat} {v : Value} {ds : List Nat} (h : DS w B v ds) : ∃ A c, v = .slice A ds.length c := by
  obtain ⟨A, c, hv, _⟩ := h; exact ⟨A, c, hv⟩

set_option maxHeartbeats 800000 in
set_option maxRecDepth 100000 in
theorem less_any (v u : Value) (ps qs : List Nat) (w : World) (ha : DS w w.heap.size v ps) (hb : DS w w.heap.size u qs) (da : dig10 ps) (db : dig10 qs) (ta : tidy ps) (tb : tidy qs) (hla : ps.length ≤ 1000000) (hlb : qs.length ≤ 1000000) :
    Calls Tryz.prog 78 #[v, u] w fun e w' => e = .returned (.bool (decide (valD ps < valD qs))) ∧ ∃ n, w' = w.drewN n := by
  obtain ⟨A, c, rfl, hc, -, hca⟩ := ha.old
  obtain ⟨A', c', rfl, hc', -, hcb⟩ := hb.old
  by_cases hl : ps.length = qs.length
  · have t1 : ((ps.length : Int) != (qs.length : Int)) = false := by rw [bne_eq_false_iff_eq, hl]
    have HD : Hid (valD (ps.drop ps.length) = valD (qs.drop ps.length)) := by
      show valD _ = valD _
      rw [List.drop_length, hl, List.drop_length]
    have HL := Lib.hid hl
    have HA := Lib.hid hca
    have HB := Lib.hid hcb
    clear hl hca hcb
    go_enter Tryz.func78, Tryz.ntmps78
    go_wp2_with fail
    go_loopw [5] (fun i wr => ∃ (k n : Nat), i = .int .i64 ((k : Int) - 1) ∧ k ≤ ps.length ∧ Hid (valD (ps.drop k) = valD (qs.drop k)) ∧ wr = w.drewN n) (fun i _ => (intOf i + 1).toNat)
    case atStart => exact ⟨ps.length, 0, rfl, Nat.le_refl _, HD, rfl⟩
    case round =>
      obtain ⟨k, n, rfl, hk, hv, rfl⟩ := hrel
      clear HD
      rcases k with _ | j
      · have HR : Hid (decide (valD ps < valD qs) = false) := by
          have h := hv.out
          simp only [List.drop_zero] at h
          show decide _ = false
          rw [h]; simp
        clear hv
        go_wp2_with fail
        go_ret
        exact ⟨ret_b HR.out.symm, _, rfl⟩
      · have hbl : j < qs.length := by rw [← HL.out]; omega
        obtain ⟨b, o, rfl, hbb, hcell⟩ := HA.out (by omega)
        obtain ⟨b', o', rfl, hbb', hcell'⟩ := HB.out (by omega)
        have f1 := hcell j (by omega)
        have f2 := hcell' j hbl
        have x10 := dig10_at da j
        have y10 := dig10_at db j
        have e1 : (((j + 1 : Nat) : Int) - 1) = (j : Int) := by omega
        rw [e1]
        have hla := less_at da db (k := j) (by omega) hbl hv.out
        have hdr := drop_at (k := j) hv.out
        clear e1 hcell hcell' hv
        generalize ps.getD j 0 = x at *
        generalize qs.getD j 0 = y at *
        by_cases hxy : x = y
        · have HV : Hid (valD (ps.drop j) = valD (qs.drop j)) := hdr hxy
          subst hxy
          clear hdr hla
          go_wp2_with fail
          go_quiet (fail)
          go_wp2_with fail
          go_roundw
          case rel => exact ⟨j, n + nq, rfl, by omega, HV, by simp⟩
          case measure => simp [intOf]
        · have t2 : ((x : Int) != (y : Int)) = true := by rw [bne_iff_ne]; omega
          have HR : Hid (decide (valD ps < valD qs) = decide (x < y)) := by
            show decide _ = decide _
            rw [decide_eq_decide, hla hxy]
          clear hdr hla hxy
          go_wp2_with fail
          go_quiet (fail)
          go_wp2_with fail
          go_quiet (fail)
          go_wp2_with fail
          go_ret
          exact ⟨ret_b HR.out.symm, _, by rw [World.drewN_drewN, World.drewN_drewN]⟩
  · have t1 : ((ps.length : Int) != (qs.length : Int)) = true := by rw [bne_iff_ne]; omega
    have HR : Hid (decide (valD ps < valD qs) = decide (ps.length < qs.length)) := by
      show decide _ = decide _
      rw [decide_eq_decide]
      constructor
      · intro h
        rcases Nat.lt_or_ge ps.length qs.length with h1 | h1
        · omega
        · have := valD_longer db ta (show qs.length < ps.length by omega)
          omega
      · intro h; exact valD_longer da tb (by omega)
    clear hl hca hcb
    go_enter Tryz.func78, Tryz.ntmps78
    go_wp2_with fail
    go_ret
    exact ⟨ret_b HR.out.symm, 0, rfl⟩
end Go.Proofs.YtmbaohjekeiphaaGreatDoor
/- The reference's sum. -/
namespace Go.Proofs.YtmbaohjekeiphaaGreatDoor
open Go.RowKit

/-- What holds of the digits of a sum before each round. -/
def SumInv (N : Nat) (ps qs os : List Nat) (c : Nat) : Prop := valD os + 10 ^ os.length * (c + valD (ps.drop os.length) + valD (qs.drop os.length)) = N ∧ dig10 os ∧ c ≤ 1
theorem SumInv.step {N : Nat} {ps qs os : List Nat} {c s : Nat} (h : SumInv N ps qs os c) (hp : dig10 ps) (hq : dig10 qs) (hs : s = ps.getD os.length 0 + qs.getD os.length 0 + c) : SumInv N ps qs (os ++ [s % 10]) (s / 10) := by
  obtain ⟨h1, h2, h3⟩ := h
  have a1 := dig10_at hp os.length
  have a2 := dig10_at hq os.length
  refine ⟨?_, dig10_snoc h2 (Nat.mod_lt _ (by omega)), by omega⟩
  rw [valD_drop ps, valD_drop qs] at h1
  have := sum_step h1 hs
  rw [valD_snoc, List.length_append, List.length_cons, List.length_nil, Nat.zero_add, Nat.pow_succ]
  exact this

/-- The number v, written out: what its cells are. -/
theorem NR.open {w : World} {v : Value} {neg : Bool} {ds : List Nat} (h : NR w v neg ds) : ∃ A c, v = .agg #[.bool neg, .slice A ds.length c] ∧ DS w w.heap.size (.slice A ds.length c) ds := by
  obtain ⟨u, rfl, hu⟩ := h
  obtain ⟨A, c, rfl⟩ := hu.len
  exact ⟨A, c, rfl, hu⟩

theorem SumInv.start (ps qs : List Nat) : SumInv (valD ps + valD qs) ps qs [] 0 := ⟨by simp [valD], dig10_nil, by omega⟩
theorem SumInv.done {N : Nat} {ps qs os : List Nat} (h : SumInv N ps qs os 0) (hp : ps.length ≤ os.length) (hq : qs.length ≤ os.length) : valD os = N ∧ dig10 os := by
  obtain ⟨h1, h2, _⟩ := h
  rw [List.drop_of_length_le hp, List.drop_of_length_le hq] at h1
  simp only [valD, Nat.add_zero, Nat.mul_zero] at h1
  exact ⟨h1, h2⟩

/-- Four new blocks, and nothing else turned. -/
theorem four_new (w : World) (c0 c1 c2 c3 : Array Value) (W : World)
    (hW : W = (((w.alloc (.cells c0 80)).alloc (.cells c1 80)).alloc (.cells c2 80)).alloc (.cells c3 80)) :
    Bk W w.heap.size c0 ∧ Bk W (w.heap.size + 1) c1 ∧ Bk W (w.heap.size + 1 + 1) c2 ∧ Bk W (w.heap.size + 1 + 1 + 1) c3 ∧ Below w.heap.size w W ∧ w.heap.size + 1 + 1 + 1 < W.heap.size := by
  subst hW
  refine ⟨(((Bk.new w c0).alloc _).alloc _).alloc _, ?_, ?_, ?_, by go_grown, by simp⟩
  · have := Bk.new (w.alloc (.cells c0 80)) c1
    simp only [World.size_alloc] at this
    exact (this.alloc _).alloc _
  · have := Bk.new ((w.alloc (.cells c0 80)).alloc (.cells c1 80)) c2
    simp only [World.size_alloc] at this
    exact this.alloc _
  · have := Bk.new (((w.alloc (.cells c0 80)).alloc (.cells c1 80)).alloc (.cells c2 80)) c3
    simp only [World.size_alloc] at this
    exact this
theorem quiet_l {P : Program} {f : FuncId} {args : Array Value} {w : World} {n : Nat} {v : Value}
    (h : Calls P f args (w.drewN n) fun e w' => e = .returned v ∧ w.drewN n = w') : Calls P f args (w.drewN n) fun e w'' => e = .returned v ∧ ∃ m, w'' = w.drewN m :=
  h.mono fun _ _ ⟨he, hm⟩ => ⟨he, n, hm.symm⟩

set_option maxHeartbeats 1600000 in
set_option maxRecDepth 100000 in
theorem add_same (v u : Value) (neg : Bool) (ps qs : List Nat) (w : World) (hv : NR w v neg ps) (hu : NR w u neg qs) (dp : dig10 ps) (dq : dig10 qs) (hlp : ps.length ≤ 1000) (hlq : qs.length ≤ 1000) :
    Calls Tryz.prog 55 #[v, u] w fun e w' => ∃ r, e = .returned r ∧ IsN w' r (sgv neg (valD ps + valD qs)) ∧ Below w.heap.size w w' := by
  obtain ⟨A, c, rfl, hA⟩ := hv.open
  obtain ⟨A', c', rfl, hA'⟩ := hu.open
  obtain ⟨i0, hi, hz0, hz1, hz2⟩ := info_parts infoU8
  go_enter Tryz.func55, Tryz.ntmps55
  go_upto_region 5 with fail
  obtain ⟨b0, b1, b2, b3, hb, hs⟩ := four_new w #[Value.bool neg, Value.slice A ps.length c] #[Value.bool neg, Value.slice A' qs.length c'] #[Value.bool false, Value.slice none 0 0] #[Value.bool neg, Value.slice none 0 0] _ rfl
  generalize (((w.alloc (Obj.cells #[Value.bool neg, Value.slice A ps.length c] 80)).alloc (Obj.cells #[Value.bool neg, Value.slice A' qs.length c'] 80)).alloc (Obj.cells #[Value.bool false, Value.slice none 0 0] 80)).alloc (Obj.cells #[Value.bool neg, Value.slice none 0 0] 80) = W at *
  generalize e3 : w.heap.size + 1 + 1 + 1 = g3 at *
  generalize e2 : w.heap.size + 1 + 1 = g2 at *
  generalize e1 : w.heap.size + 1 = g1 at *
  have l1 : w.heap.size < g1 := by omega
  have l2 : g1 < g2 := by omega
  have l3 : g2 < g3 := by omega
  clear e1 e2 e3 hv hu
  obtain ⟨M, hM⟩ : ∃ M, M = max ps.length qs.length := ⟨_, rfl⟩
  have hMp : ps.length ≤ M := by omega
  have hMq : qs.length ≤ M := by omega
  have hM1 : M ≤ 1000 := by omega
  clear hM
  go_loopw [6, 7] (fun x y wr => ∃ (os : List Nat) (cc : Nat) (v : Value), x = .int .i64 cc ∧ y = .int .i64 os.length ∧ SumInv (valD ps + valD qs) ps qs os cc ∧ cc ≤ 1 ∧ os.length ≤ M + 1 ∧ (cc = 1 → os.length ≤ M) ∧
      Bk wr w.heap.size #[.bool neg, .slice A ps.length c] ∧ Bk wr g1 #[.bool neg, .slice A' qs.length c'] ∧ Bk wr g2 #[.bool false, .slice none 0 0] ∧ Bk wr g3 #[.bool neg, v] ∧
      wr.ownsRow (g3 + 1) 5 1 v os.length (cellsD os) ∧ g3 + 1 ≤ wr.heap.size ∧ Below w.heap.size w wr)
    (fun _ y _ => M + 1 - (intOf y).toNat)
  case atStart => exact ⟨[], 0, _, rfl, rfl, SumInv.start _ _, by omega, by simp, by omega, b0, b1, b2, b3, World.ownsRow_nil _ _ _ _, hs, hb⟩
  case round =>
    obtain ⟨os, cc, v, rfl, rfl, hin, hc1, hol, hoc, r0, r1, r2, r3, hown, hs1, hbr⟩ := hrel
    clear b0 b1 b2 b3 hb hs
    have f0 := r0.cell 1
    have f1 := r1.cell 1
    have f2 := r3.cell 1
    simp at f0 f1 f2
    by_cases hgo : os.length < ps.length ∨ os.length < qs.length ∨ 0 < cc
    · have hlo : os.length ≤ M := by omega
      obtain ⟨x, hx⟩ : ∃ x, x = ps.getD os.length 0 := ⟨_, rfl⟩
      obtain ⟨y, hy⟩ : ∃ y, y = qs.getD os.length 0 := ⟨_, rfl⟩
      have hx9 : x < 10 := by rw [hx]; exact dig10_at dp _
      have hy9 : y < 10 := by rw [hy]; exact dig10_at dq _
      obtain ⟨s, hs⟩ : ∃ s, s = x + y + cc := ⟨_, rfl⟩
      have hst := hin.step dp dq (s := s) (by rw [hs, hx, hy])
      have hnc : s / 10 = 1 → os.length + 1 ≤ M := by
        intro h
        rcases Nat.lt_or_ge os.length M with h1 | h1
        · omega
        · have e1 : x = 0 := by rw [hx, List.getD_eq_getElem?_getD, List.getElem?_eq_none (by omega)]; rfl
          have e2 : y = 0 := by rw [hy, List.getD_eq_getElem?_getD, List.getElem?_eq_none (by omega)]; rfl
          omega
      have HX : Hid (∀ n, Calls Tryz.prog 76 #[.slice A ps.length c, .int .i64 os.length] (wr.drewN n) fun e w'' => e = .returned (.int .i64 x) ∧ ∃ m, w'' = wr.drewN m) :=
        fun n => by rw [hx]; exact quiet_l (digit_any _ ps _ _ (hA.below (below_drewN hbr n) (Nat.le_refl _)) (by omega) dp)
      have HY : Hid (∀ n, Calls Tryz.prog 76 #[.slice A' qs.length c', .int .i64 os.length] (wr.drewN n) fun e w'' => e = .returned (.int .i64 y) ∧ ∃ m, w'' = wr.drewN m) :=
        fun n => by rw [hy]; exact quiet_l (digit_any _ qs _ _ (hA'.below (below_drewN hbr n) (Nat.le_refl _)) (by omega) dq)
      have HS := Lib.hid hst
      have HC := Lib.hid hnc
      have v1 : IntKind.i64.wrap ((x : Int) + y) = (x : Int) + y := IntWalk.i64_in _ ⟨by omega, by omega⟩
      have v2 : IntKind.i64.wrap ((x : Int) + y + cc) = (s : Int) := by rw [IntWalk.i64_in _ ⟨by omega, by omega⟩]; omega
      have hs9 : s ≤ 19 := by omega
      clear hs
      clear hst hnc hin hx hy hoc hol
      have h3 : os.length < ps.length ∨ (ps.length ≤ os.length ∧ os.length < qs.length) ∨ (ps.length ≤ os.length ∧ qs.length ≤ os.length ∧ 1 ≤ cc) := by omega
      clear hgo
      rcases h3 with h1 | ⟨h1, h2⟩ | ⟨h1, h2, h3⟩
      all_goals
        go_wp2_with fail
        go_quiet ((go_at_call 76; first | ((with_reducible exact HX.out _)) | ((with_reducible exact HY.out _))))
        have p0 := r0.drewN nq
        have p1 := r1.drewN nq
        have p2 := r2.drewN nq
        have p3 := r3.drewN nq
        have pown : (wr.drewN nq).ownsRow (g3 + 1) 5 1 v os.length (cellsD os) := hown
        have pb := below_drewN hbr nq
        have ps1 : g3 + 1 ≤ (wr.drewN nq).heap.size := hs1
        clear r0 r1 r2 r3 hown hbr hs1 f0 f1 f2
        generalize wr.drewN nq = wq at *
        have f2 := p3.cell 1
        simp at f2
        go_wp2_with (at_builtin; refine wpList_append_own _ rfl _ _ 78 rfl (g3 + 1) 5 i0 (.int .u8 0) 1 1 Tryz.underlying78 hi hz0 hz1 hz2 rfl (by decide) _ _ _ rfl (pown.alloc _) ⟨wq.heap.size, 0, none⟩ 1 1 [.int .u8 ((s : Int) % 10)] rfl rfl ?c1 ?c2 ?c3 ?c4 ?c5 ?_)
        case c1 => exact cell_one_new _ _ _
        case c2 => intro u hu; rw [List.mem_singleton.1 hu]; rfl
        case c3 => unfold maxLen; omega
        case c4 => omega
        case c5 => simp; omega
        intro v' w1 hown1 hg1 _
        rw [show ((s : Int) % 10) = ((s % 10 : Nat) : Int) by omega, ← cellsD_snoc] at hown1
        have hlo' : (os ++ [s % 10]).length = os.length + 1 := by simp
        rw [← hlo'] at hown1
        have hne : ∀ g, g < g3 + 1 → some g ≠ v.ownBlock := fun g hg e => by have := (pown.lt g e.symm).1; omega
        have q0 := (p0.alloc _).grown hg1 (hne _ (by omega))
        have q1 := (p1.alloc _).grown hg1 (hne _ (by omega))
        have q2 := (p2.alloc _).grown hg1 (hne _ (by omega))
        have q3 := (p3.alloc _).grown hg1 (hne _ (by omega))
        have hb1 : Below w.heap.size w w1 := (pb.alloc (by omega) _).grown hg1 (by simp; omega) (fun k hk => by have := (pown.lt k hk).1; omega)
        have hs2 : g3 + 1 ≤ w1.heap.size := by have := hg1.size; simp at this; omega
        obtain ⟨A4, c4, rfl⟩ := (DS.of_own hown1).len
        clear pown hg1 p0 p1 p2 p3 pb f2 hne ps1
        have f2 := q3.cell 1
        have f3 := q3.frozen 1
        simp at f2
        go_wp2_with fail
        go_roundw
        case rel =>
          refine ⟨os ++ [s % 10], s / 10, .slice A4 (os ++ [s % 10]).length c4, by first | rfl | go_num, by rw [hlo']; go_num, HS.out, by omega, by omega, fun h => by have := HC.out h; omega, q0.far (by simp; omega) _, q1.far (by simp; omega) _, q2.far (by simp; omega) _, by simpa using q3.put 1 (.slice A4 (os ++ [s % 10]).length c4), own_setN hown1 (by simp) _, by simpa [World.setCell] using hs2, hb1.setCell (by simp; omega) _⟩
        case measure => simp [intOf]; omega
    · have hx1 : ps.length ≤ os.length := by omega
      have hx2 : qs.length ≤ os.length := by omega
      have hx3 : cc = 0 := by omega
      subst hx3
      obtain ⟨hval, hd10⟩ := hin.done hx1 hx2
      obtain ⟨A3, c3, rfl⟩ := (DS.of_own hown).len
      have hnr : NR wr (.agg #[.bool neg, .slice A3 os.length c3]) neg os := ⟨_, rfl, DS.of_own hown⟩
      have HV : Hid (valD os = valD ps + valD qs) := hval
      clear hval hin hgo hoc
      have f3 := r3.cell 0
      simp at f3
      have HB := Lib.hid hown
      clear hown
      go_wp2_with (go_at_call 77; refine (trim_any _ _ _ _ hnr hd10 (by omega)).mono ?_; rintro e w1 ⟨r, rfl, hr, hb1⟩; obtain ⟨b4, A4, n4, c4, rfl⟩ := id hr.form; have q2 := r2.below hb1 r2.lt; have q20 := q2.cell 0; have q21 := q2.cell 1; have q22 := q2.frozen 0; have q23 := q2.frozen 1; simp at q20 q21)
      refine bodyPost_ret (res_struct (g := g2) rfl rfl (by simpa using (q2.put 0 (.bool b4)).put 1 (.slice A4 n4 c4))) rfl ?_
      refine ⟨_, rfl, ?_, ?_⟩
      · rw [← HV.out]
        exact (hr.put q2 0 _).put (q2.put 0 (.bool b4)) 1 _
      · have := hbr.trans (hb1.mono hbr.size)
        go_grown
end Go.Proofs.YtmbaohjekeiphaaGreatDoor
/- The reference's sum of two numbers of unlike signs; the sum as1 a whole. -/
namespace Go.Proofs.YtmbaohjekeiphaaGreatDoor
open Go.RowKit

def SubInv (ps qs os : List Nat) (c : Nat) : Prop := valD os + 10 ^ os.length * valD (ps.drop os.length) + valD qs = valD ps + 10 ^ os.length * (c + valD (qs.drop os.length)) ∧ dig10 os ∧ c ≤ 1
theorem SubInv.start (ps qs : List Nat) : SubInv ps qs [] 0 := ⟨by simp [valD], dig10_nil, by omega⟩
theorem sub_step {o P A B x y c c' d V Q : Nat} (h : o + P * (x + 10 * A) + Q = V + P * (c + (y + 10 * B))) (hd : d + y + c = x + 10 * c') : (o + P * d) + P * 10 * A + Q = V + P * 10 * (c' + B) := by
  have e1 : P * 10 * A = P * (10 * A) := Nat.mul_assoc _ _ _
  have e2 : P * 10 * (c' + B) = P * (10 * c' + 10 * B) := by rw [Nat.mul_assoc, Nat.mul_add]
  rw [e1, e2]
  have e3 : P * (d + y + c) = P * (x + 10 * c') := by rw [hd]
  simp only [Nat.mul_add] at *
  omega
theorem SubInv.step {ps qs os : List Nat} {c c' d : Nat} (h : SubInv ps qs os c) (hd : d + qs.getD os.length 0 + c = ps.getD os.length 0 + 10 * c') (hc : c' ≤ 1) (hd9 : d < 10) : SubInv ps qs (os ++ [d]) c' := by
  obtain ⟨h1, h2, h3⟩ := h
  refine ⟨?_, dig10_snoc h2 hd9, hc⟩
  rw [valD_drop ps, valD_drop qs] at h1
  have := sub_step h1 hd
  rw [valD_snoc, List.length_append, List.length_cons, List.length_nil, Nat.zero_add, Nat.pow_succ]
  exact this
theorem SubInv.done {ps qs os : List Nat} {c : Nat} (h : SubInv ps qs os c) (hp : os.length = ps.length) (hq : qs.length ≤ ps.length) (hle : valD qs ≤ valD ps) : valD os = valD ps - valD qs ∧ dig10 os := by
  obtain ⟨h1, h2, h3⟩ := h
  refine ⟨?_, h2⟩
  rw [hp, List.drop_length, List.drop_of_length_le hq] at h1
  simp only [valD, Nat.add_zero, Nat.mul_zero] at h1
  have h4 := valD_lt h2
  rw [hp] at h4
  rcases c with _ | c
  · omega
  · have : c = 0 := by omega
    subst this
    omega

theorem four_new' (w : World) (c0 c1 c2 c3 : Array Value) (n : Nat) (W : World)
    (hW : W = ((((w.alloc (.cells c0 80)).alloc (.cells c1 80)).alloc (.cells c2 80)).drewN n).alloc (.cells c3 80)) :
    Bk W w.heap.size c0 ∧ Bk W (w.heap.size + 1) c1 ∧ Bk W (w.heap.size + 1 + 1) c2 ∧ Bk W (w.heap.size + 1 + 1 + 1) c3 ∧ Below w.heap.size w W ∧ w.heap.size + 1 + 1 + 1 < W.heap.size := by
  obtain ⟨h0, h1, h2, h3, h4, h5⟩ := four_new w c0 c1 c2 c3 _ rfl
  subst hW
  exact ⟨h0, h1, h2, h3, ⟨h4.os, h4.tape, h4.output, h4.size, h4.block⟩, h5⟩

set_option maxHeartbeats 1600000 in
set_option maxRecDepth 100000 in
theorem add_diff (v u : Value) (n1 n2 : Bool) (ps qs : List Nat) (w : World) (hv : NR w v n1 ps) (hu : NR w u n2 qs) (hn : n1 ≠ n2) (dp : dig10 ps) (dq : dig10 qs) (tp : tidy ps) (tq : tidy qs) (hlp : ps.length ≤ 1000) (hlq : qs.length ≤ 1000) (hle : valD qs ≤ valD ps) :
    Calls Tryz.prog 55 #[v, u] w fun e w' => ∃ r, e = .returned r ∧ IsN w' r (sgv n1 (valD ps - valD qs)) ∧ Below w.heap.size w w' := by
  have hql : qs.length ≤ ps.length := by
    rcases Nat.lt_or_ge ps.length qs.length with h | h
    · have := valD_longer dp tq h; omega
    · exact h
  obtain ⟨A, c, rfl, hA⟩ := hv.open
  obtain ⟨A', c', rfl, hA'⟩ := hu.open
  obtain ⟨i0, hi, hz0, hz1, hz2⟩ := info_parts infoU8
  have hnb : (n1 == n2) = false := by rw [beq_eq_false_iff_ne]; exact hn
  have HL : Hid (∀ W, Below w.heap.size w W → Calls Tryz.prog 78 #[.slice A ps.length c, .slice A' qs.length c'] W fun e w' => e = .returned (.bool false) ∧ ∃ n, w' = W.drewN n) := by
    intro W hW
    have := less_any _ _ ps qs W (hA.below hW (Nat.le_refl _)) (hA'.below hW (Nat.le_refl _)) dp dq tp tq (by omega) (by omega)
    rw [show decide (valD ps < valD qs) = false by simp; omega] at this
    exact this
  go_enter Tryz.func55, Tryz.ntmps55
  go_upto_region 16 with (go_at_call 78; refine (HL.out _ (by go_grown)).mono ?_; rintro e w' ⟨rfl, n0, rfl⟩)
  obtain ⟨b0, b1, b2, b3, hb, hs⟩ := four_new' w #[Value.bool n1, Value.slice A ps.length c] #[Value.bool n2, Value.slice A' qs.length c'] #[Value.bool false, Value.slice none 0 0] #[Value.bool n1, Value.slice none 0 0] n0 _ rfl
  generalize ((((w.alloc (Obj.cells #[Value.bool n1, Value.slice A ps.length c] 80)).alloc (Obj.cells #[Value.bool n2, Value.slice A' qs.length c'] 80)).alloc (Obj.cells #[Value.bool false, Value.slice none 0 0] 80)).drewN n0).alloc (Obj.cells #[Value.bool n1, Value.slice none 0 0] 80) = W at *
  generalize e3 : w.heap.size + 1 + 1 + 1 = g3 at *
  generalize e2 : w.heap.size + 1 + 1 = g2 at *
  generalize e1 : w.heap.size + 1 = g1 at *
  have l1 : w.heap.size < g1 := by omega
  have l2 : g1 < g2 := by omega
  have l3 : g2 < g3 := by omega
  clear e1 e2 e3 hv hu HL hn hnb
  go_loopw [10, 11] (fun x y wr => ∃ (os : List Nat) (cc : Nat) (v : Value), x = .int .i64 cc ∧ y = .int .i64 os.length ∧ SubInv ps qs os cc ∧ cc ≤ 1 ∧ os.length ≤ ps.length ∧
      Bk wr w.heap.size #[.bool n1, .slice A ps.length c] ∧ Bk wr g1 #[.bool n2, .slice A' qs.length c'] ∧ Bk wr g2 #[.bool false, .slice none 0 0] ∧ Bk wr g3 #[.bool n1, v] ∧
      wr.ownsRow (g3 + 1) 5 1 v os.length (cellsD os) ∧ g3 + 1 ≤ wr.heap.size ∧ Below w.heap.size w wr)
    (fun _ y _ => ps.length - (intOf y).toNat)
  case atStart => exact ⟨[], 0, _, rfl, rfl, SubInv.start _ _, by omega, by simp, b0, b1, b2, b3, World.ownsRow_nil _ _ _ _, hs, hb⟩
  case round =>
    obtain ⟨os, cc, v, rfl, rfl, hin, hc1, hol, r0, r1, r2, r3, hown, hs1, hbr⟩ := hrel
    clear b0 b1 b2 b3 hb hs
    have f0 := r0.cell 1
    have f1 := r1.cell 1
    have f2 := r3.cell 1
    simp at f0 f1 f2
    by_cases hgo : os.length < ps.length
    · obtain ⟨x, hx⟩ : ∃ x, x = ps.getD os.length 0 := ⟨_, rfl⟩
      obtain ⟨y, hy⟩ : ∃ y, y = qs.getD os.length 0 := ⟨_, rfl⟩
      have hx9 : x < 10 := by rw [hx]; exact dig10_at dp _
      have hy9 : y < 10 := by rw [hy]; exact dig10_at dq _
      have HX : Hid (∀ n, Calls Tryz.prog 76 #[.slice A ps.length c, .int .i64 os.length] (wr.drewN n) fun e w'' => e = .returned (.int .i64 x) ∧ ∃ m, w'' = wr.drewN m) :=
        fun n => by rw [hx]; exact quiet_l (digit_any _ ps _ _ (hA.below (below_drewN hbr n) (Nat.le_refl _)) (by omega) dp)
      have HY : Hid (∀ n, Calls Tryz.prog 76 #[.slice A' qs.length c', .int .i64 os.length] (wr.drewN n) fun e w'' => e = .returned (.int .i64 y) ∧ ∃ m, w'' = wr.drewN m) :=
        fun n => by rw [hy]; exact quiet_l (digit_any _ qs _ _ (hA'.below (below_drewN hbr n) (Nat.le_refl _)) (by omega) dq)
      have HI : Hid (∀ d c', d + y + cc = x + 10 * c' → c' ≤ 1 → d < 10 → SubInv ps qs (os ++ [d]) c') := fun d c' h1 h2 h3 => hin.step (by rw [← hx, ← hy]; exact h1) h2 h3
      have v1 : IntKind.i64.wrap ((x : Int) - y) = (x : Int) - y := IntWalk.i64_in _ ⟨by omega, by omega⟩
      obtain ⟨s, hsd⟩ : ∃ s : Int, s = (x : Int) - y - cc := ⟨_, rfl⟩
      have v2 : IntKind.i64.wrap ((x : Int) - y - cc) = s := by rw [IntWalk.i64_in _ ⟨by omega, by omega⟩]; omega
      have hs9 : s ≤ 9 := by omega
      have hs0 : -10 ≤ s := by omega
      have HSD := Lib.hid hsd
      clear hin hx hy hol hsd
      by_cases hneg : s < 0
      · obtain ⟨d, hd⟩ : ∃ d : Nat, (d : Int) = s + 10 := ⟨(s + 10).toNat, by omega⟩
        have hd9 : d < 10 := by omega
        have HS : Hid (SubInv ps qs (os ++ [d]) 1) := HI.out d 1 (by have := HSD.out; omega) (by omega) hd9
        have v3 : s + 10 = (d : Int) := hd.symm
        clear HI hd
        go_wp2_with fail
        go_quiet ((go_at_call 76; first | ((with_reducible exact HX.out _)) | ((with_reducible exact HY.out _))))
        have p0 := r0.drewN nq
        have p1 := r1.drewN nq
        have p2 := r2.drewN nq
        have p3 := r3.drewN nq
        have pown : (wr.drewN nq).ownsRow (g3 + 1) 5 1 v os.length (cellsD os) := hown
        have pb := below_drewN hbr nq
        have ps1 : g3 + 1 ≤ (wr.drewN nq).heap.size := hs1
        clear r0 r1 r2 r3 hown hbr hs1 f0 f1 f2
        generalize wr.drewN nq = wq at *
        have f2 := p3.cell 1
        simp at f2
        go_wp2_with (at_builtin; refine wpList_append_own _ rfl _ _ 78 rfl (g3 + 1) 5 i0 (.int .u8 0) 1 1 Tryz.underlying78 hi hz0 hz1 hz2 rfl (by decide) _ _ _ rfl (pown.alloc _) ⟨wq.heap.size, 0, none⟩ 1 1 [.int .u8 (d : Int)] rfl rfl ?c1 ?c2 ?c3 ?c4 ?c5 ?_)
        case c1 => exact cell_one_new _ _ _
        case c2 => intro u hu; rw [List.mem_singleton.1 hu]; rfl
        case c3 => unfold maxLen; omega
        case c4 => omega
        case c5 => simp; omega
        intro v' w1 hown1 hg1 _
        rw [← cellsD_snoc] at hown1
        have hlo' : (os ++ [d]).length = os.length + 1 := by simp
        rw [← hlo'] at hown1
        have hne : ∀ g, g < g3 + 1 → some g ≠ v.ownBlock := fun g hg e => by have := (pown.lt g e.symm).1; omega
        have q0 := (p0.alloc _).grown hg1 (hne _ (by omega))
        have q1 := (p1.alloc _).grown hg1 (hne _ (by omega))
        have q2 := (p2.alloc _).grown hg1 (hne _ (by omega))
        have q3 := (p3.alloc _).grown hg1 (hne _ (by omega))
        have hb1 : Below w.heap.size w w1 := (pb.alloc (by omega) _).grown hg1 (by simp; omega) (fun k hk => by have := (pown.lt k hk).1; omega)
        have hs2 : g3 + 1 ≤ w1.heap.size := by have := hg1.size; simp at this; omega
        obtain ⟨A4, c4, rfl⟩ := (DS.of_own hown1).len
        clear pown hg1 p0 p1 p2 p3 pb f2 hne ps1
        have f2 := q3.cell 1
        have f3 := q3.frozen 1
        simp at f2
        go_wp2_with fail
        go_roundw
        case rel =>
          refine ⟨os ++ [d], 1, .slice A4 (os ++ [d]).length c4, rfl, by rw [hlo']; go_num, HS.out, by omega, by omega, q0.far (by simp; omega) _, q1.far (by simp; omega) _, q2.far (by simp; omega) _, by simpa using q3.put 1 (.slice A4 (os ++ [d]).length c4), own_setN hown1 (by simp) _, by simpa [World.setCell] using hs2, hb1.setCell (by simp; omega) _⟩
        case measure => simp [intOf]; omega
      · obtain ⟨d, rfl⟩ := Int.eq_ofNat_of_zero_le (show 0 ≤ s by omega)
        have hd9 : d < 10 := by omega
        have HS : Hid (SubInv ps qs (os ++ [d]) 0) := HI.out d 0 (by have := HSD.out; omega) (by omega) hd9
        clear HI
        go_wp2_with fail
        go_quiet ((go_at_call 76; first | ((with_reducible exact HX.out _)) | ((with_reducible exact HY.out _))))
        have p0 := r0.drewN nq
        have p1 := r1.drewN nq
        have p2 := r2.drewN nq
        have p3 := r3.drewN nq
        have pown : (wr.drewN nq).ownsRow (g3 + 1) 5 1 v os.length (cellsD os) := hown
        have pb := below_drewN hbr nq
        have ps1 : g3 + 1 ≤ (wr.drewN nq).heap.size := hs1
        clear r0 r1 r2 r3 hown hbr hs1 f0 f1 f2
        generalize wr.drewN nq = wq at *
        have f2 := p3.cell 1
        simp at f2
        go_wp2_with (at_builtin; refine wpList_append_own _ rfl _ _ 78 rfl (g3 + 1) 5 i0 (.int .u8 0) 1 1 Tryz.underlying78 hi hz0 hz1 hz2 rfl (by decide) _ _ _ rfl (pown.alloc _) ⟨wq.heap.size, 0, none⟩ 1 1 [.int .u8 (d : Int)] rfl rfl ?c1 ?c2 ?c3 ?c4 ?c5 ?_)
        case c1 => exact cell_one_new _ _ _
        case c2 => intro u hu; rw [List.mem_singleton.1 hu]; rfl
        case c3 => unfold maxLen; omega
        case c4 => omega
        case c5 => simp; omega
        intro v' w1 hown1 hg1 _
        rw [← cellsD_snoc] at hown1
        have hlo' : (os ++ [d]).length = os.length + 1 := by simp
        rw [← hlo'] at hown1
        have hne : ∀ g, g < g3 + 1 → some g ≠ v.ownBlock := fun g hg e => by have := (pown.lt g e.symm).1; omega
        have q0 := (p0.alloc _).grown hg1 (hne _ (by omega))
        have q1 := (p1.alloc _).grown hg1 (hne _ (by omega))
        have q2 := (p2.alloc _).grown hg1 (hne _ (by omega))
        have q3 := (p3.alloc _).grown hg1 (hne _ (by omega))
        have hb1 : Below w.heap.size w w1 := (pb.alloc (by omega) _).grown hg1 (by simp; omega) (fun k hk => by have := (pown.lt k hk).1; omega)
        have hs2 : g3 + 1 ≤ w1.heap.size := by have := hg1.size; simp at this; omega
        obtain ⟨A4, c4, rfl⟩ := (DS.of_own hown1).len
        clear pown hg1 p0 p1 p2 p3 pb f2 hne ps1
        have f2 := q3.cell 1
        have f3 := q3.frozen 1
        simp at f2
        go_wp2_with fail
        go_roundw
        case rel =>
          refine ⟨os ++ [d], 0, .slice A4 (os ++ [d]).length c4, rfl, by rw [hlo']; go_num, HS.out, by omega, by omega, q0.far (by simp; omega) _, q1.far (by simp; omega) _, q2.far (by simp; omega) _, by simpa using q3.put 1 (.slice A4 (os ++ [d]).length c4), own_setN hown1 (by simp) _, by simpa [World.setCell] using hs2, hb1.setCell (by simp; omega) _⟩
        case measure => simp [intOf]; omega
    · obtain ⟨hval, hd10⟩ := hin.done (by omega) hql hle
      obtain ⟨A3, c3, rfl⟩ := (DS.of_own hown).len
      have hnr : NR wr (.agg #[.bool n1, .slice A3 os.length c3]) n1 os := ⟨_, rfl, DS.of_own hown⟩
      have HV : Hid (valD os = valD ps - valD qs) := hval
      have hol2 : os.length ≤ 1000000 := by omega
      clear hval hin
      have f3 := r3.cell 0
      simp at f3
      have HB := Lib.hid hown
      clear hown
      go_wp2_with (go_at_call 77; refine (trim_any _ _ _ _ hnr hd10 hol2).mono ?_; rintro e w1 ⟨r, rfl, hr, hb1⟩; obtain ⟨b4, A4, n4, c4, rfl⟩ := id hr.form; have q2 := r2.below hb1 r2.lt; have q20 := q2.cell 0; have q21 := q2.cell 1; have q22 := q2.frozen 0; have q23 := q2.frozen 1; simp at q20 q21)
      refine bodyPost_ret (res_struct (g := g2) rfl rfl (by simpa using (q2.put 0 (.bool b4)).put 1 (.slice A4 n4 c4))) rfl ?_
      refine ⟨_, rfl, ?_, ?_⟩
      · rw [← HV.out]
        exact (hr.put q2 0 _).put (q2.put 0 (.bool b4)) 1 _
      · have := hbr.trans (hb1.mono hbr.size)
        go_grown

/-- A bound that no number of the laws comes near. -/
def lim : Nat := 10 ^ 200
theorem IsN.len {w : World} {v : Value} {z : Int} (h : IsN w v z) (hz : z.natAbs < lim) : ∃ ds, NR w v (decide (z < 0)) ds ∧ dig10 ds ∧ tidy ds ∧ valD ds = z.natAbs ∧ ds.length ≤ 200 := by
  obtain ⟨ds, h1, h2, h3, h4⟩ := h
  refine ⟨ds, h1, h2, h3, h4, tidy_len h3 ?_⟩
  rw [h4]; exact hz

theorem three_new (w : World) (c0 c1 c2 : Array Value) (W : World)
    (hW : W = ((w.alloc (.cells c0 80)).alloc (.cells c1 80)).alloc (.cells c2 80)) :
    Bk W w.heap.size c0 ∧ Bk W (w.heap.size + 1) c1 ∧ Bk W (w.heap.size + 1 + 1) c2 ∧ Below w.heap.size w W ∧ w.heap.size + 1 + 1 < W.heap.size := by
  subst hW
  refine ⟨((Bk.new w c0).alloc _).alloc _, ?_, ?_, by go_grown, by simp⟩
  · have := Bk.new (w.alloc (.cells c0 80)) c1
    simp only [World.size_alloc] at this
    exact this.alloc _
  · have := Bk.new ((w.alloc (.cells c0 80)).alloc (.cells c1 80)) c2
    simp only [World.size_alloc] at this
    exact this

set_option maxHeartbeats 1600000 in
set_option maxRecDepth 100000 in
theorem addN_any (v u : Value) (x y : Int) (w : World) (hv : IsN w v x) (hu : IsN w u y) (hx : x.natAbs < lim) (hy : y.natAbs < lim) :
    Calls Tryz.prog 55 #[v, u] w fun e w' => ∃ r, e = .returned r ∧ IsN w' r (x + y) ∧ Below w.heap.size w w' := by
  obtain ⟨ps, hp1, hp2, hp3, hp4, hp5⟩ := hv.len hx
  obtain ⟨qs, hq1, hq2, hq3, hq4, hq5⟩ := hu.len hy
  clear hx hy
  by_cases hs : decide (x < 0) = decide (y < 0)
  · have h := add_same v u (decide (x < 0)) ps qs w hp1 (by rw [hs]; exact hq1) hp2 hq2 (by omega) (by omega)
    have e : sgv (decide (x < 0)) (valD ps + valD qs) = x + y := by
      rw [hp4, hq4]
      rw [decide_eq_decide] at hs
      unfold sgv
      by_cases hx : x < 0 <;> simp [hx] <;> omega
    rw [e] at h
    exact h
  · by_cases hle : valD qs ≤ valD ps
    · have h := add_diff v u _ _ ps qs w hp1 hq1 hs hp2 hq2 hp3 hq3 (by omega) (by omega) hle
      have e : sgv (decide (x < 0)) (valD ps - valD qs) = x + y := by
        rw [hp4, hq4] at *
        rw [decide_eq_decide] at hs
        unfold sgv
        by_cases hx : x < 0 <;> simp [hx] <;> omega
      rw [e] at h
      exact h
    · obtain ⟨A, c, rfl, hA⟩ := hp1.open
      obtain ⟨A', c', rfl, hA'⟩ := hq1.open
      have e : sgv (decide (y < 0)) (valD qs - valD ps) = x + y := by
        rw [hp4, hq4] at *
        rw [decide_eq_decide] at hs
        unfold sgv
        by_cases hy : y < 0 <;> simp [hy] <;> omega
      have HL : Hid (∀ W, Below w.heap.size w W → Calls Tryz.prog 78 #[.slice A ps.length c, .slice A' qs.length c'] W fun e w' => e = .returned (.bool true) ∧ ∃ n, w' = W.drewN n) := by
        intro W hW
        have := less_any _ _ ps qs W (hA.below hW (Nat.le_refl _)) (hA'.below hW (Nat.le_refl _)) hp2 hq2 hp3 hq3 (by omega) (by omega)
        rw [show decide (valD ps < valD qs) = true by simp; omega] at this
        exact this
      have HR : Hid (∀ W, Below w.heap.size w W → Calls Tryz.prog 55 #[.agg #[.bool (decide (y < 0)), .slice A' qs.length c'], .agg #[.bool (decide (x < 0)), .slice A ps.length c]] W fun e w' => ∃ r, e = .returned r ∧ IsN w' r (x + y) ∧ Below W.heap.size W w') := by
        intro W hW
        have h := add_diff _ _ _ _ qs ps W (hq1.below hW) (hp1.below hW) (fun h => hs h.symm) hq2 hp2 hq3 hp3 (by omega) (by omega) (by omega)
        rw [e] at h
        exact h
      have hnb : (decide (x < 0) == decide (y < 0)) = false := by rw [beq_eq_false_iff_ne]; exact hs
      clear hle hs e hv hu hp1 hq1
      generalize decide (x < 0) = n1 at *
      generalize decide (y < 0) = n2 at *
      go_enter Tryz.func55, Tryz.ntmps55
      go_upto_region 12 with (go_at_call 78; refine (HL.out _ (by go_grown)).mono ?_; rintro e w' ⟨rfl, n0, rfl⟩)
      obtain ⟨b0, b1, b2, hb, hsz⟩ := three_new w #[Value.bool n1, Value.slice A ps.length c] #[Value.bool n2, Value.slice A' qs.length c'] #[Value.bool false, Value.slice none 0 0] _ rfl
      have b0 := b0.drewN n0
      have b1 := b1.drewN n0
      have b2 := b2.drewN n0
      have hb := below_drewN hb n0
      generalize (((w.alloc (Obj.cells #[Value.bool n1, Value.slice A ps.length c] 80)).alloc (Obj.cells #[Value.bool n2, Value.slice A' qs.length c'] 80)).alloc (Obj.cells #[Value.bool false, Value.slice none 0 0] 80)).drewN n0 = W at *
      generalize e2 : w.heap.size + 1 + 1 = g2 at *
      generalize e1 : w.heap.size + 1 = g1 at *
      have l1 : w.heap.size < g1 := by omega
      have l2 : g1 < g2 := by omega
      clear e1 e2
      have f0 := b0.cell 0
      have f1 := b0.cell 1
      have f2 := b1.cell 0
      have f3 := b1.cell 1
      simp at f0 f1 f2 f3
      go_wp2_with (go_at_call 55; refine (HR.out _ hb).mono ?_; rintro e w1 ⟨r, rfl, hr, hb1⟩; obtain ⟨b4, A4, n4, c4, rfl⟩ := id hr.form; have q2 := b2.below hb1 b2.lt; have q20 := q2.cell 0; have q21 := q2.cell 1; have q22 := q2.frozen 0; have q23 := q2.frozen 1; simp at q20 q21)
      refine bodyPost_ret (res_struct (g := g2) rfl rfl (by simpa using (q2.put 0 (.bool b4)).put 1 (.slice A4 n4 c4))) rfl ?_
      refine ⟨_, rfl, (hr.put q2 0 _).put (q2.put 0 (.bool b4)) 1 _, ?_⟩
      have := hb.trans (hb1.mono hb.size)
      go_grown
end Go.Proofs.YtmbaohjekeiphaaGreatDoor
/- The reference's negation and comparison. -/
namespace Go.Proofs.YtmbaohjekeiphaaGreatDoor
open Go.RowKit

theorem two_new (w : World) (c0 c1 : Array Value) (W : World) (hW : W = (w.alloc (.cells c0 80)).alloc (.cells c1 80)) :
    Bk W w.heap.size c0 ∧ Bk W (w.heap.size + 1) c1 ∧ Below w.heap.size w W ∧ w.heap.size + 1 < W.heap.size := by
  subst hW
  refine ⟨(Bk.new w c0).alloc _, ?_, by go_grown, by simp⟩
  have := Bk.new (w.alloc (.cells c0 80)) c1
  simp only [World.size_alloc] at this
  exact this

set_option maxHeartbeats 800000 in
set_option maxRecDepth 100000 in
theorem neg_any (v : Value) (x : Int) (w : World) (hv : IsN w v x) (hx : x.natAbs < lim) :
    Calls Tryz.prog 57 #[v] w fun e w' => ∃ r, e = .returned r ∧ IsN w' r (-x) ∧ Below w.heap.size w w' := by
  obtain ⟨ds, h1, h2, h3, h4, h5⟩ := hv.len hx
  obtain ⟨A, c, rfl, hA⟩ := h1.open
  have e : sgv (!decide (x < 0)) (valD ds) = -x := by
    rw [h4]; unfold sgv; by_cases h : x < 0 <;> simp [h] <;> omega
  have HT : Hid (∀ W, Below w.heap.size w W → Calls Tryz.prog 77 #[.agg #[.bool (!decide (x < 0)), .slice A ds.length c]] W fun e w' => ∃ r, e = .returned r ∧ IsN w' r (-x) ∧ Below W.heap.size W w') := by
    intro W hW
    have := trim_any (.agg #[.bool (!decide (x < 0)), .slice A ds.length c]) (!decide (x < 0)) ds W ⟨_, rfl, hA.below hW (Nat.le_refl _)⟩ h2 (by omega)
    rw [e] at this
    exact this
  clear e hv h1
  generalize decide (x < 0) = n1 at *
  go_enter Tryz.func57, Tryz.ntmps57
  go_upto_region 1 with fail
  obtain ⟨b0, b1, hb, hsz⟩ := two_new w #[Value.bool n1, Value.slice A ds.length c] #[Value.bool false, Value.slice none 0 0] _ rfl
  generalize ((w.alloc (Obj.cells #[Value.bool n1, Value.slice A ds.length c] 80)).alloc (Obj.cells #[Value.bool false, Value.slice none 0 0] 80)) = W at *
  generalize e1 : w.heap.size + 1 = g1 at *
  have l1 : w.heap.size < g1 := by omega
  clear e1
  have f0 := b0.cell 0
  have f1 := b0.cell 1
  simp at f0 f1
  go_wp2_with (go_at_call 77; refine (HT.out _ hb).mono ?_; rintro e w1 ⟨r, rfl, hr, hb1⟩; obtain ⟨b4, A4, n4, c4, rfl⟩ := id hr.form; have q2 := b1.below hb1 b1.lt; have q20 := q2.cell 0; have q21 := q2.cell 1; have q22 := q2.frozen 0; have q23 := q2.frozen 1; simp at q20 q21)
  refine bodyPost_ret (res_struct (g := g1) rfl rfl (by simpa using (q2.put 0 (.bool b4)).put 1 (.slice A4 n4 c4))) rfl ?_
  refine ⟨_, rfl, (hr.put q2 0 _).put (q2.put 0 (.bool b4)) 1 _, ?_⟩
  have := hb.trans (hb1.mono hb.size)
  go_grown

theorem bcell {W w1 : World} (hb : Below W.heap.size W w1) : (∀ b o, b < W.heap.size → w1.cell? ⟨b, o, none⟩ = W.cell? ⟨b, o, none⟩) ∧ (∀ b o, b < W.heap.size → w1.frozen? ⟨b, o, none⟩ = W.frozen? ⟨b, o, none⟩) :=
  ⟨fun b o h => hb.cell (p := ⟨b, o, none⟩) h, fun b o h => hb.frozen (p := ⟨b, o, none⟩) h⟩
def cmpI (x y : Int) : Int := if x < y then -1 else if y < x then 1 else 0
set_option maxRecDepth 100000 in
set_option maxHeartbeats 1600000 in
theorem cmp_any (v u : Value) (x y : Int) (w : World) (hv : IsN w v x) (hu : IsN w u y) (hx : x.natAbs < lim) (hy : y.natAbs < lim) :
    Calls Tryz.prog 75 #[v, u] w fun e w' => e = .returned (.int .i64 (cmpI x y)) ∧ Below w.heap.size w w' := by
  obtain ⟨b1, A1, m1, c1, rfl⟩ := id hv.form
  obtain ⟨b2, A2, m2, c2, rfl⟩ := id hu.form
  go_enter Tryz.func75, Tryz.ntmps75
  go_upto_region 1 with fail
  obtain ⟨b0, b1', hb, hsz⟩ := two_new w #[Value.bool b1, Value.slice A1 m1 c1] #[Value.bool b2, Value.slice A2 m2 c2] _ rfl
  generalize ((w.alloc (Obj.cells #[Value.bool b1, Value.slice A1 m1 c1] 80)).alloc (Obj.cells #[Value.bool b2, Value.slice A2 m2 c2] 80)) = W at *
  generalize e1 : w.heap.size + 1 = g1 at *
  have l1 : w.heap.size < g1 := by omega
  have l0 : w.heap.size < W.heap.size := by omega
  clear e1
  have f0 := b0.cell 0
  have f1 := b0.cell 1
  have f2 := b1'.cell 0
  have f3 := b1'.cell 1
  simp at f0 f1 f2 f3
  have HN : Hid (∀ X, Below W.heap.size W X → Calls Tryz.prog 57 #[.agg #[.bool b2, .slice A2 m2 c2]] X fun e w' => ∃ r, e = .returned r ∧ IsN w' r (-y) ∧ Below X.heap.size X w' ∧ Below W.heap.size W w') :=
    fun X hX => (neg_any _ y X (hu.below (hb.trans (hX.mono hb.size))) hy).mono fun _ _ ⟨r, h1, h2, h3⟩ => ⟨r, h1, h2, h3, hX.trans (h3.mono hX.size)⟩
  have HA : Hid (∀ X z, Below W.heap.size W X → IsN X z (-y) → Calls Tryz.prog 55 #[.agg #[.bool b1, .slice A1 m1 c1], z] X fun e w' => ∃ r, e = .returned r ∧ IsN w' r (x + -y) ∧ Below X.heap.size X w' ∧ Below W.heap.size W w') :=
    fun X z hX hz => (addN_any _ _ x (-y) X (hv.below (hb.trans (hX.mono hb.size))) hz hx (by rw [Int.natAbs_neg]; exact hy)).mono fun _ _ ⟨r, h1, h2, h3⟩ => ⟨r, h1, h2, h3, hX.trans (h3.mono hX.size)⟩
  have l2 : g1 < W.heap.size := hsz
  have d1 : ¬ W.heap.size = w.heap.size := by omega
  have d2 : ¬ W.heap.size = g1 := by omega
  clear hv hu b0 b1'
  go_cut [5] (fun s5 wx => ∃ g b A n c, s5 = .pointer (some ⟨g, 0, none⟩) ∧ IsN wx (.agg #[.bool b, .slice A n c]) (x + -y) ∧ Bk wx g #[.bool b, .slice A n c] ∧ Below w.heap.size w wx)
  case first =>
    go_region_held3 (fun w' => w'.cell? ⟨w.heap.size, 0, none⟩ = some (.bool b1) ∧ w'.cell? ⟨w.heap.size, 1, none⟩ = some (.slice A1 m1 c1) ∧ w'.cell? ⟨g1, 0, none⟩ = some (.bool b2) ∧ w'.cell? ⟨g1, 1, none⟩ = some (.slice A2 m2 c2)) (go_keep)
      (first
      | (go_at_call 57; refine (HN.out _ (by go_grown)).mono ?_; rintro e w1 ⟨r, rfl, hr, hb1, hX1⟩; obtain ⟨b4, A4, n4, c4, rfl⟩ := id hr.form; obtain ⟨hc1, hf1⟩ := bcell hb1; have hz1 := hb1.size; (try simp at hz1); have d3 : ¬ w1.heap.size = w.heap.size := (by omega); have d4 : ¬ w1.heap.size = g1 := (by omega); (try (have hz1' : W.heap.size < w1.heap.size := (by omega))); have k0 := (hX1.cell (p := ⟨w.heap.size, 0, none⟩) l0).trans f0; have k1 := (hX1.cell (p := ⟨w.heap.size, 1, none⟩) l0).trans f1; have k2 := (hX1.cell (p := ⟨g1, 0, none⟩) l2).trans f2; have k3 := (hX1.cell (p := ⟨g1, 1, none⟩) l2).trans f3)
      | (go_at_call 55; refine (HA.out _ _ (by go_grown) (by first | exact hr | exact hr.below (by go_grown))).mono ?_; rintro e w2 ⟨r, rfl, hr2, hb2, hX2⟩; obtain ⟨b5, A5, n5, c5, rfl⟩ := id hr2.form; obtain ⟨hc2, hf2⟩ := bcell hb2; have hz2 := hb2.size; (try simp at hz2); have d5 : ¬ w2.heap.size = w.heap.size := (by omega); have d6 : ¬ w2.heap.size = g1 := (by omega); (try (have hz2' : W.heap.size < w2.heap.size := (by omega))); have k0 := (hX2.cell (p := ⟨w.heap.size, 0, none⟩) l0).trans f0; have k1 := (hX2.cell (p := ⟨w.heap.size, 1, none⟩) l0).trans f1; have k2 := (hX2.cell (p := ⟨g1, 0, none⟩) l2).trans f2; have k3 := (hX2.cell (p := ⟨g1, 1, none⟩) l2).trans f3))
    all_goals
      go_wp2_with fail
      go_meet
    · exact ⟨_, b5, A5, n5, c5, rfl, hr2.below ((Below.refl _ _).alloc (Nat.le_refl _) _), Bk.new _ _, hb.trans ((hX2.mono hb.size).alloc (by have := hX2.size; have := hb.size; omega) _)⟩
    · have hB : Bk w2 w1.heap.size #[.bool false, .slice none 0 0] := (Bk.new w1 _).below hb2 (by simp)
      exact ⟨_, b5, A5, n5, c5, rfl, (hr2.put hB 0 _).put (hB.put 0 (.bool b5)) 1 _, by simpa using (hB.put 0 (.bool b5)).put 1 (.slice A5 n5 c5), ((hb.trans (hX2.mono hb.size)).setCell (by have := hX1.size; have := hb.size; simp; omega) _).setCell (by have := hX1.size; have := hb.size; simp; omega) _⟩
    · have hB0 : Bk w1 W.heap.size #[.bool false, .slice none 0 0] := (Bk.new W.drew _).below hb1 (by simp)
      have hB : Bk w2 W.heap.size #[.bool false, .slice none 0 0] := hB0.below hb2 hB0.lt
      exact ⟨_, b5, A5, n5, c5, rfl, (hr2.put hB 0 _).put (hB.put 0 (.bool b5)) 1 _, by simpa using (hB.put 0 (.bool b5)).put 1 (.slice A5 n5 c5), ((hb.trans (hX2.mono hb.size)).setCell (by have := hb.size; simp; omega) _).setCell (by have := hb.size; simp; omega) _⟩
  case rest =>
    obtain ⟨g, b, A, n, c, rfl, ⟨ds, hr1, hr2, hr3, hr4⟩, hB, hbw⟩ := hcut
    obtain ⟨u, hu1, hu2⟩ := hr1
    injection hu1 with hu1
    simp at hu1
    obtain ⟨rfl, rfl⟩ := hu1
    obtain ⟨A', c', hu3, _⟩ := hu2
    injection hu3 with _ hn _
    subst hn
    have q0 := hB.cell 0
    have q1 := hB.cell 1
    simp at q0 q1
    have hz := tidy_zero hr3
    by_cases h1 : x < y
    · have t1 : decide (x + -y < 0) = true := by simp; omega
      have hc : cmpI x y = -1 := by unfold cmpI; rw [if_pos h1]
      rw [t1] at q0
      have HC := Lib.hid hc
      clear hc t1 hz hr4 h1
      go_wp2_with fail
      go_ret
      exact ⟨ret_i HC.out.symm, hbw⟩
    · have t1 : decide (x + -y < 0) = false := by simp; omega
      rw [t1] at q0
      by_cases h2 : y < x
      · have hl : 0 < ds.length := by
          rcases Nat.eq_zero_or_pos ds.length with h | h
          · have := hz.2 (List.eq_nil_of_length_eq_zero h); omega
          · exact h
        have hc : cmpI x y = 1 := by unfold cmpI; rw [if_neg h1, if_pos h2]
        have HC := Lib.hid hc
        clear hc t1 hz hr4 h1 h2
        go_wp2_with fail
        go_ret
        exact ⟨ret_i HC.out.symm, hbw⟩
      · have hl : ds.length = 0 := by
          have := hz.1 (by omega)
          rw [this]; rfl
        have hc : cmpI x y = 0 := by unfold cmpI; rw [if_neg h1, if_neg h2]
        rw [hl] at q1
        have HC := Lib.hid hc
        clear hc t1 hz hr4 h1 h2 hl
        go_wp2_with fail
        go_ret
        exact ⟨ret_i HC.out.symm, hbw⟩
end Go.Proofs.YtmbaohjekeiphaaGreatDoor
/- The reference's turn into an int64. -/
namespace Go.Proofs.YtmbaohjekeiphaaGreatDoor
open Go.RowKit

def fitsB (n : Int) : Bool := decide (-9223372036854775808 ≤ n ∧ n ≤ 9223372036854775807)
theorem lim_small : 9223372036854775808 < lim := by unfold lim; decide +kernel
theorem cmp_least (z : Int) (h : -9223372036854775808 ≤ z) : 0 ≤ cmpI z (-9223372036854775808) := by unfold cmpI; rw [if_neg (by omega)]; split <;> omega
theorem cmp_least' (z : Int) (h : z < -9223372036854775808) : cmpI z (-9223372036854775808) < 0 := by unfold cmpI; rw [if_pos (by omega)]; omega
theorem cmp_most (z : Int) (h : z ≤ 9223372036854775807) : cmpI z 9223372036854775807 ≤ 0 := by unfold cmpI; split; omega; rw [if_neg (by omega)]; omega
theorem cmp_most' (z : Int) (h : 9223372036854775807 < z) : 0 < cmpI z 9223372036854775807 := by unfold cmpI; rw [if_neg (by omega), if_pos (by omega)]; omega
theorem cmp_bd (x y : Int) : -1 ≤ cmpI x y ∧ cmpI x y ≤ 1 := by unfold cmpI; split; omega; split <;> omega

theorem ret_ib {k : IntKind} {a b : Int} {c d : Bool} (h : a = b) (h' : c = d) : Ending.returned (.tuple #[.int k a, .bool c]) = .returned (.tuple #[.int k b, .bool d]) := by rw [h, h']
theorem int_bounds {z : Int} {n : Nat} (h : n = z.natAbs) (hz : -9223372036854775808 ≤ z ∧ z ≤ 9223372036854775807) : n = z.natAbs ∧ n ≤ 9223372036854775808 ∧ (decide (z < 0) = false → n ≤ 9223372036854775807) :=
  ⟨h, by omega, fun h => by simp at h; omega⟩
theorem sgv_of {z : Int} {n : Nat} (h : n = z.natAbs) : sgv (decide (z < 0)) n = z := by
  rw [h]; unfold sgv; by_cases hx : z < 0 <;> simp [hx] <;> omega
theorem one_new (w : World) (c0 : Array Value) (W : World) (hW : W = w.alloc (.cells c0 80)) : Bk W w.heap.size c0 ∧ Below w.heap.size w W ∧ w.heap.size < W.heap.size := by
  subst hW
  exact ⟨Bk.new w c0, by go_grown, by simp⟩

set_option maxRecDepth 100000 in
set_option maxHeartbeats 1600000 in
theorem int_any (v : Value) (z : Int) (w : World) (hv : IsN w v z) (hz : z.natAbs < lim) :
    Calls Tryz.prog 54 #[v] w fun e w' => e = .returned (.tuple #[.int .i64 (fitV z), .bool (fitsB z)]) ∧ Below w.heap.size w w' := by
  obtain ⟨b1, A1, m1, c1, rfl⟩ := id hv.form
  have HO : Hid (∀ n X, -9223372036854775808 ≤ n → n ≤ 9223372036854775807 → Calls Tryz.prog 56 #[.int .i64 n] X fun e w' => ∃ r, e = .returned r ∧ IsN w' r n ∧ Below X.heap.size X w') := fun n X h0 h1 => of_any n X h0 h1
  go_enter Tryz.func54, Tryz.ntmps54
  go_wp2_with fail
  obtain ⟨b0, hb0, hs0⟩ := one_new w #[Value.bool b1, Value.slice A1 m1 c1] _ rfl
  generalize (w.alloc (Obj.cells #[Value.bool b1, Value.slice A1 m1 c1] 80)) = W0 at *
  refine (HO.out _ W0 (by omega) (by omega)).mono ?_
  rintro e w1 ⟨r1, rfl, hr1, hb1⟩
  obtain ⟨b2, A2, m2, c2, rfl⟩ := id hr1.form
  have v1 := (hv.below hb0).below hb1
  have b0 := b0.below hb1 hs0
  have hb1 := hb0.trans (hb1.mono (Nat.le_of_lt hs0))
  clear hb0
  go_wp2_with fail
  obtain ⟨q1, hq1, hs1⟩ := one_new w1 #[Value.bool b2, Value.slice A2 m2 c2] _ rfl
  have v2 := v1.below hq1
  have p0 := b0.below hq1 b0.lt
  have hb2 := hb1.trans (hq1.mono hb1.size)
  have hr2 := hr1.below hq1
  generalize e1 : w1.heap.size = g1 at *
  have l1 : w.heap.size < g1 := by have := b0.lt; omega
  clear hr1 v1 b0 hb1 hq1 e1
  generalize (w1.alloc (Obj.cells #[Value.bool b2, Value.slice A2 m2 c2] 80)) = W1 at *
  refine (HO.out _ W1 (by omega) (by omega)).mono ?_
  rintro e w2 ⟨r2, rfl, hr3, hb3⟩
  obtain ⟨b3, A3, m3, c3, rfl⟩ := id hr3.form
  have v3 := v2.below hb3
  have p1 := p0.below hb3 p0.lt
  have q2 := q1.below hb3 q1.lt
  have hr4 := hr2.below hb3
  have hb4 := hb2.trans (hb3.mono hb2.size)
  clear v2 p0 q1 hr2 hb3 hb2 HO
  go_upto_region 3 with fail
  obtain ⟨s1, hq1, hs2⟩ := one_new w2 #[Value.bool b3, Value.slice A3 m3 c3] _ rfl
  have v4 := v3.below hq1
  have p2 := p1.below hq1 p1.lt
  have q3 := q2.below hq1 q2.lt
  have hr5 := hr4.below hq1
  have hr6 := hr3.below hq1
  have hb5 := hb4.trans (hq1.mono hb4.size)
  have l2 : g1 < w2.heap.size := q2.lt
  generalize e2 : w2.heap.size = g2 at *
  clear v3 p1 q2 hr3 hr4 hb4 hq1 e2
  generalize (w2.alloc (Obj.cells #[Value.bool b3, Value.slice A3 m3 c3] 80)) = W2 at *
  have f0 := p2.cell 0
  have f1 := p2.cell 1
  have f2 := q3.cell 0
  have f3 := q3.cell 1
  simp at f0 f1 f2 f3
  have HL := lim_small
  have HC1 : Hid (Calls Tryz.prog 75 #[.agg #[.bool b1, .slice A1 m1 c1], .agg #[.bool b2, .slice A2 m2 c2]] W2 fun e w' => e = .returned (.int .i64 (cmpI z (-9223372036854775808))) ∧ Below W2.heap.size W2 w') :=
    cmp_any _ _ z _ W2 v4 hr5 hz (by omega)
  have HC2 : Hid (∀ X, Below W2.heap.size W2 X → Calls Tryz.prog 75 #[.agg #[.bool b1, .slice A1 m1 c1], .agg #[.bool b3, .slice A3 m3 c3]] X fun e w' => e = .returned (.int .i64 (cmpI z 9223372036854775807)) ∧ Below X.heap.size X w') :=
    fun X hX => cmp_any _ _ z _ X (v4.below hX) (hr6.below hX) hz (by omega)
  have HX := cmp_bd z (-9223372036854775808)
  have HY := cmp_bd z 9223372036854775807
  by_cases h1 : z < -9223372036854775808
  · have t1 := cmp_least' z h1
    have hf : Hid (fitV z = 0 ∧ fitsB z = false) := ⟨fitV_out (.inl h1), by unfold fitsB; simp; omega⟩
    generalize cmpI z (-9223372036854775808) = k1 at *
    clear HL HC2 HY hr5 hr6 v4 h1
    go_wp2_with (go_at_call 75; refine HC1.out.mono ?_; rintro e w3 ⟨rfl, hb6⟩)
    go_ret2
    exact ⟨ret_ib hf.out.1.symm hf.out.2.symm, hb5.trans (hb6.mono hb5.size)⟩
  · by_cases h2 : 9223372036854775807 < z
    · have t1 := cmp_least z (by omega)
      have t2 := cmp_most' z h2
      have hf : Hid (fitV z = 0 ∧ fitsB z = false) := ⟨fitV_out (.inr h2), by unfold fitsB; simp; omega⟩
      generalize cmpI z (-9223372036854775808) = k1 at *
      generalize cmpI z 9223372036854775807 = k2 at *
      clear HL hr5 hr6 v4 h1 h2
      go_wp2_with (first
        | (go_at_call 75; ((with_reducible refine HC1.out.mono ?_); rintro e w3 ⟨rfl, hb6⟩; obtain ⟨hc1, hf1⟩ := bcell hb6; have k0 := (hb6.cell (p := ⟨w.heap.size, 0, none⟩) p2.lt).trans f0; have k1' := (hb6.cell (p := ⟨w.heap.size, 1, none⟩) p2.lt).trans f1; have k2' := (hb6.cell (p := ⟨g2, 0, none⟩) s1.lt).trans (s1.cell 0); have k3' := (hb6.cell (p := ⟨g2, 1, none⟩) s1.lt).trans (s1.cell 1); simp at k2' k3'; clear hc1 hf1))
        | (go_at_call 75; ((with_reducible refine (HC2.out _ hb6).mono ?_); rintro e w4 ⟨rfl, hb7⟩)))
      go_ret2
      exact ⟨ret_ib hf.out.1.symm hf.out.2.symm, (hb5.trans (hb6.mono hb5.size)).trans (hb7.mono (by have := hb6.size; have := hb5.size; omega))⟩
    · have t1 := cmp_least z (by omega)
      have t2 := cmp_most z (by omega)
      have hf : Hid (fitV z = z ∧ fitsB z = true) := ⟨fitV_in (by omega) (by omega), by unfold fitsB; simp; omega⟩
      generalize cmpI z (-9223372036854775808) = k1 at *
      generalize cmpI z 9223372036854775807 = k2 at *
      have hzb : Hid (-9223372036854775808 ≤ z ∧ z ≤ 9223372036854775807) := ⟨by omega, by omega⟩
      obtain ⟨ds, hr1, hr2, hr3, hr4⟩ := v4
      obtain ⟨u, hu1, hu2⟩ := hr1
      injection hu1 with hu1
      simp at hu1
      obtain ⟨rfl, rfl⟩ := hu1
      obtain ⟨A', c', hu3, hu4, -, hu5⟩ := hu2.old
      injection hu3 with hA hn hc
      subst hA hn hc
      have hlen : ds.length ≤ 200 := tidy_len hr3 (by rw [hr4]; exact hz)
      clear HL hr5 hr6 h1 h2
      go_wp2_with (first
        | (go_at_call 75; ((with_reducible refine HC1.out.mono ?_); rintro e w3 ⟨rfl, hb6⟩; have k0 := (hb6.cell (p := ⟨w.heap.size, 0, none⟩) p2.lt).trans f0; have k1' := (hb6.cell (p := ⟨w.heap.size, 1, none⟩) p2.lt).trans f1; have k2' := (hb6.cell (p := ⟨g2, 0, none⟩) s1.lt).trans (s1.cell 0); have k3' := (hb6.cell (p := ⟨g2, 1, none⟩) s1.lt).trans (s1.cell 1); simp at k2' k3'))
        | (go_at_call 75; ((with_reducible refine (HC2.out _ hb6).mono ?_); rintro e w4 ⟨rfl, hb7⟩; have p3 := (p2.below hb6 p2.lt).below hb7 (p2.below hb6 p2.lt).lt; have m0 := p3.cell 0; have m1' := p3.cell 1; simp at m0 m1')))
      have hb8 : Below w.heap.size w w4 := (hb5.trans (hb6.mono hb5.size)).trans (hb7.mono (by have := hb6.size; have := hb5.size; omega))
      have hw4 : Below W2.heap.size W2 w4 := hb6.trans (hb7.mono hb6.size)
      have HV : Hid (valD ds = z.natAbs ∧ valD ds ≤ 9223372036854775808 ∧ (decide (z < 0) = false → valD ds ≤ 9223372036854775807)) := int_bounds hr4 hzb.out
      have HS : Hid (sgv (decide (z < 0)) (valD ds) = z) := sgv_of hr4
      have HU := Lib.hid hu5
      clear hb6 hb7 hb5 hr4 hu5 k0 k1' k2' k3' f0 f1 f2 f3 HC1 HC2 hu2 t1 t2 HX HY p2 q3 s1 hs2 p3 hv hz
      generalize decide (z < 0) = neg at *
      go_loop [6, 7] (fun x i => ∃ k : Nat, k ≤ ds.length ∧ i = .int .i64 ((k : Int) - 1) ∧ x = .int .i64 (sgv neg (valD (ds.drop k)))) (fun _ i => (intOf i + 1).toNat)
      case atStart => exact ⟨ds.length, Nat.le_refl _, rfl, by rw [List.drop_length]; cases neg <;> rfl⟩
      case round =>
        obtain ⟨k, hk, rfl, rfl⟩ := hrel
        rcases k with _ | j
        · have HR : Hid (sgv neg (valD (ds.drop 0)) = fitV z) := by
            show _ = _
            rw [hf.out.1, List.drop_zero]; exact HS.out
          have hf2 := hf.out.2
          have HF := Lib.hid hf2
          generalize sgv neg (valD (ds.drop 0)) = r at *
          clear hf2
          go_wp2_with fail
          go_ret2
          exact ⟨ret_ib HR.out HF.out.symm, hb8⟩
        · obtain ⟨b, o, rfl, hbb, hcell⟩ := HU.out (by omega)
          have fj := (hw4.cell (p := ⟨b, o + j, none⟩) hbb).trans (hcell j (by omega))
          have e1 : (((j + 1 : Nat) : Int) - 1) = (j : Int) := by omega
          rw [e1]
          have hd := valD_drop ds j
          have hle := drop_le ds j (by omega)
          have h10 := dig10_at hr2 j
          obtain ⟨hv1, hv2, hv3⟩ := HV.out
          have HD : Hid (valD (ds.drop j) = ds.getD j 0 + 10 * valD (ds.drop (j + 1))) := hd
          have hbj : valD (ds.drop (j + 1)) ≤ 922337203685477580 := by omega
          have hb9 : valD (ds.drop j) ≤ 9223372036854775808 := by omega
          have hb10 : neg = false → valD (ds.drop j) ≤ 9223372036854775807 := fun h => by have := hv3 h; omega
          clear e1 hcell hv1 hv2 hv3 hle
          have hsum : ((ds.getD j 0 : Nat) : Int) + 10 * (valD (ds.drop (j + 1)) : Int) = (valD (ds.drop j) : Int) := by omega
          generalize ds.getD j 0 = x at *
          generalize valD (ds.drop (j + 1)) = p at *
          clear hd
          cases neg
          · have hs1 : sgv false p = (p : Int) := rfl
            have HQ : Hid ((10 : Int) * p + x = sgv false (valD (ds.drop j))) := by show _ = ((valD (ds.drop j) : Nat) : Int); omega
            have g1 : 10 * (p : Int) + x ≤ 9223372036854775807 := by have := hb10 rfl; omega
            rw [hs1]
            clear hb10 hs1 hsum HD hb9
            go_wp2_with fail
            go_round
            case rel => exact ⟨j, by omega, by first | rfl | go_num, by first | rw [HQ.out] | (rw [← HQ.out]; go_num)⟩
            case measure => simp [intOf]
          · have hs1 : sgv true p = -(p : Int) := rfl
            have HQ : Hid ((10 : Int) * -(p : Int) - x = sgv true (valD (ds.drop j))) := by show _ = -((valD (ds.drop j) : Nat) : Int); omega
            have g1 : -9223372036854775808 ≤ 10 * -(p : Int) - x := by omega
            rw [hs1]
            clear hb10 hs1 hsum HD hb9
            go_wp2_with fail
            go_round
            case rel => exact ⟨j, by omega, by first | rfl | go_num, by first | rw [HQ.out] | (rw [← HQ.out]; go_num)⟩
            case measure => simp [intOf]
end Go.Proofs.YtmbaohjekeiphaaGreatDoor
/- The reference's text of a number, and the law IntsText: it returns true for every input. -/
namespace Go.Proofs.YtmbaohjekeiphaaGreatDoor
open Go.RowKit

theorem DS.old_at {w : World} {B : Nat} {A : Option Addr} {n c : Nat} {ds : List Nat} (h : DS w B (.slice A n c) ds) {i : Nat} (hi : i < ds.length) :
    ∃ b o, A = some ⟨b, o, none⟩ ∧ b < B ∧ w.cell? ⟨b, o + i, none⟩ = some (.int .u8 ((ds.getD i 0 : Nat) : Int)) := by
  obtain ⟨A1, c1, hv, _, _, hc⟩ := h.old
  injection hv with h1 h2 h3
  subst h1
  obtain ⟨b, o, ha, hb, hcell⟩ := hc (by omega)
  exact ⟨b, o, ha, hb, hcell i hi⟩
theorem lim_int {n : Int} (h0 : -9223372036854775808 ≤ n) (h1 : n ≤ 9223372036854775807) : n.natAbs < lim := by have := lim_small; omega

/-- The digits of a number, the least first, as the text has them, the greatest first. -/
theorem decDigits_of {ds : List Nat} (hd : dig10 ds) (ht : tidy ds) (hne : ds ≠ []) : Lib.decDigits (valD ds) = ds.reverse.map fun d => UInt8.ofNat (48 + d) := by
  induction ds with
  | nil => exact absurd rfl hne
  | cons x r ih =>
    have hx := hd x (by simp)
    by_cases hr : r = []
    · subst hr
      rw [show valD [x] = x by simp [valD], Lib.decDigits, dif_pos hx]; rfl
    · have hd' : dig10 r := fun d h => hd d (by simp [h])
      have ht' : tidy r := fun y s h => ht y (x :: s) (by rw [h]; rfl)
      have h0 : valD r ≠ 0 := fun h => hr ((tidy_zero ht').1 h)
      rw [Lib.decDigits, dif_neg (by simp only [valD]; omega)]
      have e1 : valD (x :: r) / 10 = valD r := by simp only [valD]; omega
      have e2 : valD (x :: r) % 10 = x := by simp only [valD]; omega
      rw [e1, e2, ih hd' ht' hr]
      simp
def preB (neg : Bool) : List UInt8 := if neg then [45] else []
def txt (neg : Bool) (ds : List Nat) : List UInt8 := preB neg ++ ds.reverse.map fun d => UInt8.ofNat (48 + d)
theorem itoa_of {z : Int} {ds : List Nat} (hd : dig10 ds) (ht : tidy ds) (hv : valD ds = z.natAbs) (hne : ds ≠ []) : Lib.itoa z = txt (decide (z < 0)) ds := by
  unfold Lib.itoa txt preB
  by_cases h : z < 0
  · rw [if_pos h, ← hv, decDigits_of hd ht hne]; simp [h]
  · rw [if_neg h, show z.toNat = valD ds by omega, decDigits_of hd ht hne]; simp [h]
theorem itoa_zero : Lib.itoa 0 = [48] := by unfold Lib.itoa; rw [if_neg (by omega), show (0 : Int).toNat = 0 from rfl, Lib.decDigits]; rfl

theorem txt_len (neg : Bool) (ds : List Nat) : (txt neg ds).length ≤ ds.length + 1 := by unfold txt preB; cases neg <;> simp
theorem txt_step (neg : Bool) (ds : List Nat) (j : Nat) (hj : j < ds.length) : txt neg (ds.drop j) = txt neg (ds.drop (j + 1)) ++ [UInt8.ofNat (48 + ds.getD j 0)] := by
  unfold txt
  rw [List.drop_eq_getElem_cons hj, List.getD_eq_getElem?_getD, List.getElem?_eq_getElem hj]
  simp only [List.reverse_cons, List.map_append, List.map_cons, List.map_nil, List.append_assoc, Option.getD_some]
theorem u8_48 {d : Nat} (h : d < 10) : ((UInt8.ofNat (48 + d)).toNat : Int) = 48 + d := by
  rw [UInt8.toNat_ofNat', Nat.mod_eq_of_lt (by omega)]; omega
def cellsB (l : List UInt8) : List Value := l.map fun b => Value.int .u8 (b.toNat : Int)
theorem cellsB_snoc (l : List UInt8) (c : UInt8) : cellsB (l ++ [c]) = cellsB l ++ [Value.int .u8 (c.toNat : Int)] := by simp [cellsB]
/-- A row of the call's own that reads as bytes, turned into a string. -/
theorem conv_own {W : World} {base : Nat} {v : Value} {l : List UInt8} (h : W.ownsRow base 5 1 v l.length (cellsB l)) (hl : 0 < l.length) :
    ∃ A c, v = .slice A l.length c ∧ (convert 78 9 (.slice A l.length c)).run Tryz.prog W = .ok (.string ⟨l.toArray⟩) W := by
  obtain ⟨g, cap, rfl⟩ : ∃ g cap, v = .slice (some ⟨g, 0, none⟩) l.length cap := by
    rcases h.2 with ⟨_, h0⟩ | ⟨g, cap, cur, hv, _⟩
    · omega
    · exact ⟨g, cap, hv⟩
  refine ⟨_, cap, rfl, run_convert_bytes_back W _ _ _ _ _ _ Tryz.underlying78 Tryz.underlying5 Tryz.underlying9 fun j hj => ?_⟩
  exact h.cells (g := g) rfl j _ (by simp [cellsB, List.getElem?_map, List.getElem?_eq_getElem hj])

set_option maxRecDepth 100000 in
set_option maxHeartbeats 1600000 in
theorem textR_any (v : Value) (z : Int) (w : World) (hv : IsN w v z) (hz : z.natAbs < lim) :
    Calls Tryz.prog 92 #[v] w fun e w' => e = .returned (.string ⟨(Lib.itoa z).toArray⟩) ∧ Below w.heap.size w w' := by
  obtain ⟨ds, h1, h2, h3, h4, h5⟩ := hv.len hz
  obtain ⟨A, c, rfl, hA⟩ := h1.open
  by_cases hne : ds = []
  · have hz0 : z = 0 := by rw [hne] at h4; simp [valD] at h4; omega
    subst hz0 hne
    rw [itoa_zero]
    clear hv h1
    go_enter Tryz.func92, Tryz.ntmps92
    go_wp2_with fail
    go_ret
    exact ⟨rfl, by go_grown⟩
  · have hl : 0 < ds.length := List.length_pos_iff.2 hne
    rw [itoa_of h2 h3 h4 hne]
    obtain ⟨i0, hi, hz0, hz1, hz2⟩ := info_parts infoU8
    clear hv h1
    generalize decide (z < 0) = neg at *
    go_enter Tryz.func92, Tryz.ntmps92
    go_upto_region 4 with fail
    obtain ⟨b0, hb, hs⟩ := one_new w #[Value.bool neg, Value.slice A ds.length c] _ rfl
    have hdW := hA.below hb (Nat.le_refl _)
    obtain ⟨b, o, rfl, hbb, hcell0⟩ := hA.old_at (i := 0) hl
    generalize (w.alloc (Obj.cells #[Value.bool neg, Value.slice (some ⟨b, o, none⟩) ds.length c] 80)) = W at *
    have f0 := b0.cell 0
    have f1 := b0.cell 1
    simp at f0 f1
    have hnz : ((ds.length : Int) == 0) = false := by rw [beq_eq_false_iff_ne]; omega
    clear hcell0
    go_upto_if 10 with fail
    go_cut [3] (fun s3 wx => wx.ownsRow (w.heap.size + 1) 5 1 s3 (txt neg []).length (cellsB (txt neg [])) ∧ Bk wx w.heap.size #[.bool neg, .slice (some ⟨b, o, none⟩) ds.length c] ∧ w.heap.size + 1 ≤ wx.heap.size ∧ Below w.heap.size w wx)
    case first =>
      cases neg
      · go_wp2_with fail
        go_meet
        exact ⟨World.ownsRow_nil _ _ _ _, b0, hs, hb⟩
      · have hown := World.ownsRow_nil W (w.heap.size + 1) 5 1
        go_wp2_with (at_builtin; refine wpList_append_own _ rfl _ _ 78 rfl (w.heap.size + 1) 5 i0 (.int .u8 0) 1 1 Tryz.underlying78 hi hz0 hz1 hz2 rfl (by decide) _ _ _ rfl (hown.alloc _) ⟨W.heap.size, 0, none⟩ 1 1 [.int .u8 45] rfl rfl ?c1 ?c2 ?c3 ?c4 ?c5 ?_)
        case c1 => exact cell_one_new _ _ _
        case c2 => intro u hu; rw [List.mem_singleton.1 hu]; rfl
        case c3 => unfold maxLen; omega
        case c4 => omega
        case c5 => simp; omega
        intro v' w1 hown1 hg1 _
        go_wp2_with fail
        go_meet
        exact ⟨hown1, (b0.alloc _).grown hg1 (by simp [Value.ownBlock]), by have := hg1.size; simp at this; omega, (hb.alloc (by omega) _).grown hg1 (by simp; omega) (fun k hk => by simp [Value.ownBlock] at hk)⟩
    case rest =>
      obtain ⟨hown, r0, hs1, hbr⟩ := hcut
      clear b0 hb hdW f0 f1 hs
      have f1 := r0.cell 1
      simp at f1
      go_wp2_with fail
      go_loopw [3, 4] (fun s3 iv wr => ∃ k : Nat, k ≤ ds.length ∧ iv = .int .i64 ((k : Int) - 1) ∧ wr.ownsRow (w.heap.size + 1) 5 1 s3 (txt neg (ds.drop k)).length (cellsB (txt neg (ds.drop k))) ∧ Bk wr w.heap.size #[.bool neg, .slice (some ⟨b, o, none⟩) ds.length c] ∧ w.heap.size + 1 ≤ wr.heap.size ∧ Below w.heap.size w wr) (fun _ iv _ => (intOf iv + 1).toNat)
      case atStart => exact ⟨ds.length, Nat.le_refl _, rfl, by rw [List.drop_length]; exact hown, r0, hs1, hbr⟩
      case round =>
        obtain ⟨k, hk, rfl, hown, r0, hs1, hbr⟩ := hrel
        rcases k with _ | j
        · rw [List.drop_zero] at hown
          have hlt : 0 < (txt neg ds).length := by unfold txt; rw [List.length_append, List.length_map, List.length_reverse]; omega
          obtain ⟨A, c, rfl, hconv⟩ := conv_own hown hlt
          generalize hT : txt neg ds = tt at *
          have HT := Lib.hid hT
          clear hown r0 hs1 f1 hT
          go_wp2_with fail
          go_ret
          exact ⟨by rw [HT.out]; rfl, hbr⟩
        · have e1 : (((j + 1 : Nat) : Int) - 1) = (j : Int) := by omega
          rw [e1]
          obtain ⟨b', o', he, hbb', hcell⟩ := hA.old_at (i := j) (by omega)
          injection he with he
          injection he with e2 e3 _
          subst e2 e3
          have fj := (hbr.cell (p := ⟨b, o + j, none⟩) hbb).trans hcell
          have h10 := dig10_at h2 j
          have hstep := txt_step neg ds j (by omega)
          have hlen := txt_len neg (ds.drop (j + 1))
          rw [List.length_drop] at hlen
          have hu := u8_48 h10
          have HS : Hid (txt neg (ds.drop j) = txt neg (ds.drop (j + 1)) ++ [UInt8.ofNat (48 + ds.getD j 0)]) := hstep
          have HU : Hid (((UInt8.ofNat (48 + ds.getD j 0)).toNat : Int) = 48 + ((ds.getD j 0 : Nat) : Int)) := hu
          generalize ds.getD j 0 = x at *
          clear e1 hcell hstep hu f1
          have f1 := r0.cell 1
          simp at f1
          generalize hT : txt neg (ds.drop (j + 1)) = T at *
          have hne : ∀ g, g < w.heap.size + 1 → some g ≠ Value.ownBlock _ := fun g hg e => by have := (hown.lt g e.symm).1; omega
          have hrow : ∀ k, Value.ownBlock _ = some k → w.heap.size + 1 ≤ k := fun k e => (hown.lt k e).1
          have HNE := Lib.hid hne
          have HRO := Lib.hid hrow
          have HT := Lib.hid hT
          clear hne hrow hT
          go_wp2_with (at_builtin; refine wpList_append_own _ rfl _ _ 78 rfl (w.heap.size + 1) 5 i0 (.int .u8 0) 1 1 Tryz.underlying78 hi hz0 hz1 hz2 rfl (by decide) _ _ _ rfl (hown.alloc _) ⟨wr.heap.size, 0, none⟩ 1 1 [.int .u8 (48 + (x : Int))] rfl rfl ?d1 ?d2 ?d3 ?d4 ?d5 ?_)
          try (case d1 => exact cell_one_new _ _ _)
          case d2 => first | rfl | (intro u hu; rw [List.mem_singleton.1 hu]; rfl)
          case d3 => unfold maxLen; omega
          case d4 => omega
          case d5 => first | omega | (simp; omega)
          intro v' w1 hown1 hg1 _
          rw [← HU.out, ← cellsB_snoc, ← HS.out] at hown1
          have hl2 : (txt neg (ds.drop j)).length = T.length + 1 := by rw [HS.out]; simp
          rw [← hl2] at hown1
          have q0 := (r0.alloc _).grown hg1 (HNE.out _ (by omega))
          have hb1 : Below w.heap.size w w1 := (hbr.alloc (by omega) _).grown hg1 (by simp; omega) (fun k hk => by have := HRO.out k hk; omega)
          have hs2 : w.heap.size + 1 ≤ w1.heap.size := by have := hg1.size; simp at this; omega
          clear hown hg1 r0 hbr hs1 f1 fj
          go_wp2_with fail
          go_roundw
          case rel => exact ⟨j, by omega, rfl, hown1, q0, hs2, hb1⟩
          case measure => simp [intOf]
end Go.Proofs.YtmbaohjekeiphaaGreatDoor
/- The law IntsText: it returns true for every input. -/
namespace Go.Proofs.YtmbaohjekeiphaaGreatDoor
open Go.RowKit

theorem numFrom_snoc (l : List UInt8) (c : UInt8) (a : Nat) : numFrom a (l ++ [c]) = numFrom a l * 10 + (c.toNat - 48) := by simp [numFrom, List.foldl_append]
theorem u8d {d : Nat} (h : d < 10) : (UInt8.ofNat (48 + d)).toNat = 48 + d := by rw [UInt8.toNat_ofNat', Nat.mod_eq_of_lt (by omega)]
theorem dec_facts : ∀ u : Nat, numFrom 0 (Lib.decDigits u) = u ∧ (Lib.decDigits u).all digitB = true ∧ (1 ≤ u → ∃ c r, Lib.decDigits u = c :: r ∧ 49 ≤ c.toNat ∧ c.toNat ≤ 57) := by
  intro u
  induction u using Nat.strongRecOn with
  | ind u ih =>
    rw [Lib.decDigits]
    by_cases h : u < 10
    · rw [dif_pos h]
      have e := u8d h
      refine ⟨by simp only [numFrom, List.foldl_cons, List.foldl_nil]; omega, by simp only [List.all_cons, List.all_nil, Bool.and_true, digitB, decide_eq_true_eq]; omega, fun h1 => ⟨_, [], rfl, by omega, by omega⟩⟩
    · rw [dif_neg h]
      obtain ⟨h1, h2, h3⟩ := ih (u / 10) (by omega)
      have e := u8d (d := u % 10) (by omega)
      refine ⟨by rw [numFrom_snoc, h1]; omega, by rw [List.all_append, h2]; simp only [List.all_cons, List.all_nil, Bool.and_true, digitB, Bool.true_and, decide_eq_true_eq]; omega, fun _ => ?_⟩
      obtain ⟨c, r, hc, h4⟩ := h3 (by omega)
      exact ⟨c, r ++ [_], by rw [hc]; rfl, h4⟩
theorem dec_ne (u : Nat) : Lib.decDigits u ≠ [] := by
  rw [Lib.decDigits]
  by_cases h : u < 10
  · rw [dif_pos h]; simp
  · rw [dif_neg h]; simp
theorem itoa_facts (n : Int) : isTextB (Lib.itoa n) = true ∧ valB (Lib.itoa n) = n := by
  unfold Lib.itoa
  by_cases h : n < 0
  · rw [if_pos h]
    obtain ⟨h1, h2, h3⟩ := dec_facts n.natAbs
    obtain ⟨c, r, hc, h4, h5⟩ := h3 (by omega)
    refine ⟨?_, ?_⟩
    · unfold isTextB
      rw [bare_minus, hc]
      simp only
      rw [if_neg (by omega), ← hc]; exact h2
    · unfold valB
      rw [hp_minus, if_pos rfl, bare_minus, h1]; clear h3; omega
  · rw [if_neg h]
    obtain ⟨h1, h2, h3⟩ := dec_facts n.toNat
    by_cases h0 : n = 0
    · subst h0
      rw [show Lib.decDigits (0 : Int).toNat = [48] by rw [show (0 : Int).toNat = 0 from rfl, Lib.decDigits]; rfl]
      decide
    · obtain ⟨c, r, hc, h4, h5⟩ := h3 (by omega)
      have hcm : c ≠ 45 := fun e => by rw [e] at h4; exact absurd h4 (by decide)
      refine ⟨?_, ?_⟩
      · unfold isTextB
        rw [hc, bare_other r hcm]
        simp only
        rw [if_neg (by omega), ← hc]; exact h2
      · unfold valB
        rw [hc, hp_other r hcm, bare_other r hcm, ← hc, h1]
        clear h3; simp; omega
theorem dec_len : ∀ (k u : Nat), u < 10 ^ (k + 1) → (Lib.decDigits u).length ≤ k + 1 := by
  intro k
  induction k with
  | zero => intro u h; rw [Lib.decDigits, dif_pos (by simpa using h)]; simp
  | succ k ih =>
    intro u h
    rw [Lib.decDigits]
    by_cases h1 : u < 10
    · rw [dif_pos h1]; simp
    · rw [dif_neg h1, List.length_append]
      have h2 : u / 10 < 10 ^ (k + 1) := by rw [Nat.pow_succ] at h; omega
      have := ih (u / 10) h2
      simp only [List.length_cons, List.length_nil]; omega
theorem itoa_len (n : Int) (h0 : -9223372036854775808 ≤ n) (h1 : n ≤ 9223372036854775807) : (Lib.itoa n).length ≤ 20 := by
  have hd : ∀ u : Nat, u ≤ 9223372036854775808 → (Lib.decDigits u).length ≤ 19 := fun u hu => dec_len 18 u (by omega)
  unfold Lib.itoa
  split
  · simp only [List.length_cons]; have := hd n.natAbs (by omega); omega
  · have := hd n.toNat (by omega); omega
end Go.Proofs.YtmbaohjekeiphaaGreatDoor
/- The reference's reading of a text. -/
namespace Go.Proofs.YtmbaohjekeiphaaGreatDoor
open Go.RowKit

/-- Where the digits begin, and whether there is a sign. -/
def negB (l : List UInt8) : Bool := Lib.hasPrefix l [45]
def fromN (l : List UInt8) : Nat := if negB l then 1 else 0
theorem bare_drop (l : List UInt8) : bare l = l.drop (fromN l) := by
  unfold bare Lib.trimPrefix fromN negB
  by_cases h : Lib.hasPrefix l [45] = true
  · rw [if_pos h, if_pos h]; rfl
  · rw [if_neg h, if_neg h]; rfl
theorem valB_sgv (l : List UInt8) : valB l = sgv (negB l) (numFrom 0 (l.drop (fromN l))) := by
  rw [← bare_drop]; unfold valB sgv negB; rfl
theorem text_short {l : List UInt8} (h : l.length = fromN l) : isTextB l = false := by
  unfold isTextB
  rw [bare_drop, List.drop_of_length_le (by omega)]
theorem text_zero {l : List UInt8} (h1 : fromN l < l.length) (h2 : (l[fromN l]'h1).toNat = 48) (h3 : 1 < l.length) : isTextB l = false := by
  unfold isTextB
  rw [bare_drop, List.drop_eq_getElem_cons h1]
  simp only
  rw [if_pos h2, decide_eq_false_iff_not]
  intro e
  rw [e] at h3
  simp at h3
theorem text_digits {l : List UInt8} (h1 : fromN l < l.length) (h2 : (l[fromN l]'h1).toNat ≠ 48 ∨ l.length = 1) : isTextB l = (l.drop (fromN l)).all digitB := by
  unfold isTextB
  rw [bare_drop]
  rw [List.drop_eq_getElem_cons h1]
  simp only
  by_cases h3 : (l[fromN l]'h1).toNat = 48
  · have h4 : l.length = 1 := by
      rcases h2 with h | h
      · exact absurd h3 h
      · exact h
    have h5 : fromN l = 0 := by omega
    match l, h4 with
    | [c], _ =>
      have hc : c.toNat = 48 := by simpa [h5] using h3
      have : c = 48 := by rw [← UInt8.toNat_inj]; exact hc
      subst this
      rw [if_pos h3]
      simp only [h5]
      simp [digitB]
  · rw [if_neg h3]

/-- The digits of a text, the least first. -/
def digs (m : List UInt8) : List Nat := m.reverse.map fun c => c.toNat - 48
theorem digs_val (m : List UInt8) : valD (digs m) = numFrom 0 m := by
  have h : ∀ r : List UInt8, valD (r.map fun c => c.toNat - 48) = numFrom 0 r.reverse := by
    intro r
    induction r with
    | nil => rfl
    | cons x r ih => simp only [List.map_cons, valD, List.reverse_cons, numFrom_snoc, ih]; omega
  have := h m.reverse
  rw [List.reverse_reverse] at this
  exact this
theorem digs_10 {m : List UInt8} (h : m.all digitB = true) : dig10 (digs m) := fun d hd => by
  unfold digs at hd
  obtain ⟨c, hc, rfl⟩ := List.mem_map.1 hd
  have := List.all_eq_true.1 h c (List.mem_reverse.1 hc)
  simp only [digitB, decide_eq_true_eq] at this
  omega
theorem digs_step (l : List UInt8) (j : Nat) (hj : j < l.length) : digs (l.drop j) = digs (l.drop (j + 1)) ++ [l[j].toNat - 48] := by
  unfold digs
  rw [List.drop_eq_getElem_cons hj, List.reverse_cons, List.map_append]
  rfl
theorem all_step (l : List UInt8) (j : Nat) (hj : j < l.length) : (l.drop j).all digitB = (digitB l[j] && (l.drop (j + 1)).all digitB) := by
  rw [List.drop_eq_getElem_cons hj, List.all_cons]
theorem all_not {l : List UInt8} {f j : Nat} (hf : f ≤ j) (hj : j < l.length) (h : digitB l[j] = false) : (l.drop f).all digitB = false := by
  rw [List.all_eq_false]
  refine ⟨l[j], ?_, by simp [h]⟩
  rw [List.mem_iff_getElem]
  exact ⟨j - f, by rw [List.length_drop]; omega, by rw [List.getElem_drop]; congr 1; omega⟩
theorem digs_len (m : List UInt8) : (digs m).length = m.length := by simp [digs]

theorem negB_list : ∀ (l : List UInt8) (h : 0 < l.length), negB l = decide (l[0] = 45)
  | c :: r, _ => by
    unfold negB
    by_cases hc : c = 45
    · subst hc; rw [hp_minus]; simp
    · rw [hp_other r hc]; simp [hc]
theorem negB_first (s : ByteArray) (h : 0 < s.size) : negB s.data.toList = decide (s[0] = 45) := negB_list s.data.toList (by simpa using h)
theorem from_le (l : List UInt8) : fromN l ≤ l.length := by
  unfold fromN
  by_cases h : negB l = true
  · rw [if_pos h]
    cases l with
    | nil => exact absurd h (by decide)
    | cons c r => simp
  · rw [if_neg h]; omega
theorem res_two {fn : Func} {t r : Tmp} {tmps : Array Value} {W : World} {g : Nat} {x y z : Value} (h : fn.results = #[.cell t 80, .tmp r]) (ha : tmps[t]?.getD undef = .pointer (some ⟨g, 0, none⟩)) (hz : tmps[r]?.getD undef = z) (hb : Bk W g #[x, y]) :
    (results fn tmps).run Tryz.prog W = .ok (.tuple #[.agg #[x, y], z]) W := by
  have q0 := hb.cell 0
  have q1 := hb.cell 1
  simp at q0 q1
  simp [results, h, go_sem, ha, hz, q0, q1]

theorem zero_n {w : World} : IsN w (.agg #[.bool false, .slice none 0 0]) 0 := ⟨[], ⟨_, rfl, DS.nil _ _⟩, dig10_nil, tidy_nil, rfl⟩

set_option maxRecDepth 100000 in
set_option maxHeartbeats 4000000 in
theorem parseR_gen (s : ByteArray) (tx : Bool) (z : Int) (w : World) (hs : s.size ≤ 100) (htx : Hid (isTextB s.data.toList = tx)) (hvz : Hid (valB s.data.toList = z)) :
    Calls Tryz.prog 82 #[.string s] w fun e w' => ∃ b A n c, e = .returned (.tuple #[.agg #[.bool b, .slice A n c], .bool tx]) ∧ (tx = true → IsN w' (.agg #[.bool b, .slice A n c]) z) ∧ Below w.heap.size w w' := by
  obtain ⟨i0, hi, hz0, hz1, hz2⟩ := info_parts infoU8
  have hsl := Lib.size_eq s
  generalize hneg : negB s.data.toList = neg at *
  obtain ⟨f, hf⟩ : ∃ f, f = fromN s.data.toList := ⟨_, rfl⟩
  have hfn : f = if neg then 1 else 0 := by rw [hf, fromN, hneg]
  go_enter Tryz.func82, Tryz.ntmps82
  go_upto_region 3 with fail
  obtain ⟨b0, b1, hb, hsz⟩ := two_new w #[Value.bool false, Value.slice none 0 0] #[Value.bool false, Value.slice none 0 0] _ rfl
  generalize (w.alloc (Obj.cells #[Value.bool false, Value.slice none 0 0] 80)).alloc (Obj.cells #[Value.bool false, Value.slice none 0 0] 80) = W at *
  generalize e1 : w.heap.size + 1 = g1 at *
  have l1 : w.heap.size < g1 := by omega
  clear e1
  go_cut [14] (fun s14 wx => s14 = .bool neg ∧ wx = W)
  case first =>
    by_cases h0 : s.size = 0
    · have hn : neg = false := by
        rw [← hneg]
        have : s.data.toList = [] := List.eq_nil_of_length_eq_zero (by rw [← hsl]; exact h0)
        rw [this]; rfl
      have HN := Lib.hid hn
      have h0' : ¬ 0 < s.size := by omega
      clear hn hneg hsl hf hfn h0
      go_wp2_with fail
      go_meet
      exact ⟨by rw [HN.out], rfl⟩
    · have h1 : 0 < s.size := by omega
      have hn := negB_first s h1
      rw [hneg] at hn
      have HN := Lib.hid hn
      have t1 : ((s[0].toNat : Int) == 45) = decide (s[0] = 45) := by
        rw [Bool.eq_iff_iff, beq_iff_eq, decide_eq_true_iff, ← UInt8.toNat_inj]
        constructor
        · intro h; show s[0].toNat = 45; omega
        · intro h; have : s[0].toNat = 45 := h; omega
      clear hn hneg hsl hf hfn h0
      go_wp2_with fail
      go_meet
      exact ⟨by rw [HN.out], rfl⟩
  case rest =>
    obtain ⟨rfl, rfl⟩ := hcut
    go_upto_if 14 with fail
    go_cut [5] (fun s5 wx => s5 = .int .i64 f ∧ Bk wx w.heap.size #[.bool false, .slice none 0 0] ∧ Bk wx g1 #[.bool neg, .slice none 0 0] ∧ Below w.heap.size w wx ∧ g1 < wx.heap.size)
    case first =>
      have f0 := b1.cell 0
      have f2 := b1.frozen 0
      simp at f0
      cases neg
      · have HF : Hid (f = 0) := hfn
        clear hfn hneg hsl
        go_wp2_with fail
        go_meet
        exact ⟨by rw [HF.out]; rfl, b0, b1, hb, hsz⟩
      · have HF : Hid (f = 1) := hfn
        clear hfn hneg hsl
        go_wp2_with fail
        go_meet
        exact ⟨by rw [HF.out]; rfl, b0.far (by simp; omega) _, by simpa using b1.put 0 (.bool true), hb.setCell (by simp; omega) _, by simpa [World.setCell] using hsz⟩
    case rest =>
      obtain ⟨rfl, r0, r1, hbr, hs1⟩ := hcut
      clear b0 b1 hb hsz
      have hfle : f ≤ s.size := by rw [hf, hsl]; exact from_le _
      have hf1 : f ≤ 1 := by rw [hfn]; split <;> omega
      have q0 := r0.cell 0
      have q1 := r0.cell 1
      have q2 := r0.frozen 0
      have q3 := r0.frozen 1
      simp at q0 q1
      by_cases h1 : f = s.size
      · have hT : isTextB s.data.toList = false := text_short (by rw [← hsl, ← hf, h1])
        have HT : Hid (tx = false) := htx.out.symm.trans hT
        have t1 : ((s.size : Int) == (f : Int)) = true := by rw [beq_iff_eq, h1]
        clear hT hneg hfn hf hsl h1
        go_wp2_with fail
        refine bodyPost_ret (res_two (g := w.heap.size) rfl rfl rfl (by simpa using (r0.put 0 (.bool false)).put 1 (.slice none 0 0))) rfl ?_
        exact ⟨false, none, 0, 0, by rw [HT.out]; rfl, (fun h => by rw [HT.out] at h; cases h), by go_grown⟩
      · have hflt : f < s.size := by omega
        have hfl : f < s.data.toList.length := by rw [← hsl]; exact hflt
        have hgf : s[f] = s.data.toList[f]'hfl := rfl
        have t1 : ((s.size : Int) == (f : Int)) = false := by rw [beq_eq_false_iff_ne]; omega
        by_cases h2 : s[f].toNat = 48 ∧ 1 < s.size
        · have hT : isTextB s.data.toList = false := by
            refine text_zero (by rw [← hf]; exact hfl) ?_ (by rw [← hsl]; exact h2.2)
            simp only [← hf]
            exact h2.1
          have HT : Hid (tx = false) := htx.out.symm.trans hT
          have t2 : ((s[f].toNat : Int) == 48) = true := by rw [beq_iff_eq]; omega
          have t3 : (1 : Int) < s.size := by omega
          clear hT hneg hfn hf hsl h1 h2 hgf
          go_wp2_with fail
          refine bodyPost_ret (res_two (g := w.heap.size) rfl rfl rfl (by simpa using (r0.put 0 (.bool false)).put 1 (.slice none 0 0))) rfl ?_
          exact ⟨false, none, 0, 0, by rw [HT.out]; rfl, (fun h => by rw [HT.out] at h; cases h), by go_grown⟩
        · have hT : isTextB s.data.toList = (s.data.toList.drop f).all digitB := by
            have h2' : (s.data.toList[f]'hfl).toNat ≠ 48 ∨ s.data.toList.length = 1 := by
              rcases Nat.lt_or_ge 1 s.size with h | h
              · left; intro e; exact h2 ⟨e, h⟩
              · right; rw [← hsl]; omega
            subst hf
            exact text_digits hfl h2'
          have HT : Hid ((s.data.toList.drop f).all digitB = tx) := hT.symm.trans htx.out
          have HV : Hid (sgv neg (numFrom 0 (s.data.toList.drop f)) = z) := by
            have := valB_sgv s.data.toList
            rw [hneg, ← hf] at this
            exact this.symm.trans hvz.out
          have h3 : ((s[f].toNat : Int) == 48) = false ∨ ((s[f].toNat : Int) == 48) = true ∧ s.size ≤ 1 := by
            by_cases h4 : s[f].toNat = 48
            · exact .inr ⟨by rw [beq_iff_eq]; omega, by omega⟩
            · exact .inl (by rw [beq_eq_false_iff_ne]; omega)
          have HSL := Lib.hid hsl
          clear hT hneg hfn hf h1 h2 hgf htx hvz hsl
          go_upto_region 6 with fail
          go_cut [30] (fun s30 wx => s30 = .bool false ∧ wx = wc)
          case first =>
            rcases h3 with h3 | ⟨h3, h4⟩
            all_goals
              go_wp2_with fail
              go_meet
              exact ⟨by first | rfl | (congr 1; simp; omega), rfl⟩
          case rest =>
            obtain ⟨rfl, rfl⟩ := hcut
            clear h3
            go_wp2_with fail
            clear q0 q1 q2 q3
            go_loopw [6] (fun iv wr => ∃ (k : Nat) (v : Value), f ≤ k ∧ k ≤ s.size ∧ iv = .int .i64 ((k : Int) - 1) ∧ Hid ((s.data.toList.drop k).all digitB = true) ∧ Bk wr w.heap.size #[.bool false, .slice none 0 0] ∧ Bk wr g1 #[.bool neg, v] ∧
                wr.ownsRow (g1 + 1) 5 1 v (digs (s.data.toList.drop k)).length (cellsD (digs (s.data.toList.drop k))) ∧ g1 + 1 ≤ wr.heap.size ∧ Below w.heap.size w wr) (fun iv _ => (intOf iv + 1).toNat)
            case atStart => exact ⟨s.size, _, hfle, Nat.le_refl _, rfl, by rw [HSL.out, List.drop_length]; exact rfl, r0, r1, by rw [HSL.out, List.drop_length]; exact World.ownsRow_nil _ _ _ _, hs1, hbr⟩
            case round =>
              obtain ⟨k, v, hfk, hks, rfl, hall, r0, r1, hown, hs1, hbr⟩ := hrel
              by_cases hkf : k = f
              · subst hkf
                have HTX : Hid (tx = true) := HT.out.symm.trans hall.out
                have hd10 := digs_10 hall.out
                have hval := digs_val (s.data.toList.drop k)
                have hlen := digs_len (s.data.toList.drop k)
                rw [List.length_drop, ← HSL.out] at hlen
                have HZ : Hid (sgv neg (valD (digs (s.data.toList.drop k))) = z) := by show _ = z; rw [hval]; exact HV.out
                have hlen2 : (digs (s.data.toList.drop k)).length ≤ 100 := by omega
                clear hlen
                generalize digs (s.data.toList.drop k) = os at *
                obtain ⟨A3, c3, rfl⟩ := (DS.of_own hown).len
                have hnr : NR wr (.agg #[.bool neg, .slice A3 os.length c3]) neg os := ⟨_, rfl, DS.of_own hown⟩
                have f2 := r1.cell 0
                have f3 := r1.cell 1
                simp at f2 f3
                have HB := Lib.hid hown
                clear hown hval hall HV HT
                go_wp2_with (go_at_call 77; refine (trim_any _ _ _ _ hnr hd10 (by omega)).mono ?_; rintro e w1 ⟨r, rfl, hr, hb1⟩; obtain ⟨b4, A4, n4, c4, rfl⟩ := id hr.form; have q2 := r0.below hb1 r0.lt; have q20 := q2.cell 0; have q21 := q2.cell 1; have q22 := q2.frozen 0; have q23 := q2.frozen 1; simp at q20 q21)
                refine bodyPost_ret (res_two (g := w.heap.size) rfl rfl rfl (by simpa using (q2.put 0 (.bool b4)).put 1 (.slice A4 n4 c4))) rfl ?_
                have hbz := hbr.trans (hb1.mono hbr.size)
                refine ⟨b4, A4, n4, c4, by rw [HTX.out]; rfl, fun _ => ?_, by go_grown⟩
                rw [← HZ.out]
                exact (hr.put q2 0 _).put (q2.put 0 (.bool b4)) 1 _
              · obtain ⟨j, rfl⟩ : ∃ j, k = j + 1 := ⟨k - 1, by omega⟩
                have hjs : j < s.size := by omega
                have hjl : j < s.data.toList.length := by rw [← HSL.out]; exact hjs
                have e1 : (((j + 1 : Nat) : Int) - 1) = (j : Int) := by omega
                rw [e1]
                have hfj : f ≤ j := by omega
                clear e1 hkf hfk
                by_cases hd : 48 ≤ (s[j].toNat : Int) ∧ (s[j].toNat : Int) ≤ 57
                · have hA2 : Hid ((s.data.toList.drop j).all digitB = true) := by
                    show _ = true
                    rw [all_step _ j hjl, hall.out, Bool.and_true]
                    exact digitB_of hd
                  have HD : Hid (digs (s.data.toList.drop j) = digs (s.data.toList.drop (j + 1)) ++ [s[j].toNat - 48]) := digs_step _ j hjl
                  obtain ⟨hx, hy⟩ := hd
                  have hlen := digs_len (s.data.toList.drop (j + 1))
                  rw [List.length_drop, ← HSL.out] at hlen
                  have hlen2 : (digs (s.data.toList.drop (j + 1))).length ≤ 100 := by omega
                  clear hlen
                  generalize digs (s.data.toList.drop (j + 1)) = os at *
                  obtain ⟨A3, c3, rfl⟩ := (DS.of_own hown).len
                  have f3 := r1.cell 1
                  simp at f3
                  have f4 := r1.frozen 1
                  obtain ⟨d, hdd⟩ : ∃ d, d = s[j].toNat - 48 := ⟨_, rfl⟩
                  rw [← hdd] at HD
                  have hd9 : d ≤ 9 := by omega
                  have v2 : (s[j].toNat : Int) - 48 = (d : Int) := by omega
                  have v1 : IntKind.u8.wrap (d : Int) = (d : Int) := IntWalk.u8_in _ ⟨by omega, by omega⟩
                  have k0 : (j : Int) < s.size := by omega
                  have HJ := Lib.hid hjs
                  clear hall hdd
                  go_wp2_with fail
                  clear hx hy
                  have f5 := (r1.alloc (.cells #[.int .u8 (d : Int)] 5)).cell 1
                  have f6 := (r1.alloc (.cells #[.int .u8 (d : Int)] 5)).frozen 1
                  simp at f5
                  go_region_law (refine step_append_lies _ rfl (.tmp 52) (.tmp 57) 78 rfl (g1 + 1) 5 i0 (.int .u8 0) 1 1 Tryz.underlying78 hi hz0 hz1 hz2 rfl (by decide) (.slice A3 os.length c3) os.length (cellsD os) (by simp [Act.eval]) ((hown.alloc _).drew) ⟨wr.heap.size, 0, none⟩ 1 1 [.int .u8 (d : Int)] (by simp [Act.eval]) rfl (by exact cell_one_new wr _ _) (by intro u hu; rw [List.mem_singleton.1 hu]; rfl) (by omega) (by unfold maxLen; omega) (by omega) (by simp; omega) _ rfl ?_; intro gg cc w1 hown1 hg1 hg2 hg3; have q1 := (Bk.grown (w := (wr.alloc (.cells #[.int .u8 (d : Int)] 5)).drew) (r1.alloc _) hg1 (fun e => by have := (hown.lt g1 e.symm).1; omega)); have q4 := q1.cell 1; have q5 := q1.frozen 1; simp at q4)
                  all_goals
                    have hne : ∀ g, g < g1 + 1 → some g ≠ (Value.slice A3 os.length c3).ownBlock := fun g hg e => by have := (hown.lt g e.symm).1; omega
                    have q0 := Bk.grown (w := (wr.alloc (.cells #[.int .u8 (d : Int)] 5)).drew) (r0.alloc _) hg1 (hne _ (by omega))
                    have hb1 : Below w.heap.size w w1 := (show Below w.heap.size w (wr.alloc (.cells #[.int .u8 (d : Int)] 5)).drew from below_drewN (hbr.alloc (by omega) _) 1).grown hg1 (by simp; omega) (fun k hk => by have := (hown.lt k hk).1; omega)
                    have hs2 : g1 + 1 ≤ w1.heap.size := by have := hg1.size; simp at this; omega
                    rw [← cellsD_snoc] at hown1
                    have hlo' : (os ++ [d]).length = os.length + 1 := by simp
                    rw [← hlo', ← HD.out] at hown1
                    rw [← hlo', ← HD.out] at *
                    go_wp2_with fail
                    go_roundw
                    case rel =>
                      exact ⟨j, _, hfj, by omega, rfl, hA2, q0.far (by simp; omega) _, by simpa using q1.put 1 (.slice (some ⟨gg, 0, none⟩) _ cc), own_setN hown1 (by simp) _, by simpa [World.setCell] using hs2, hb1.setCell (by simp; omega) _⟩
                    case measure => simp [intOf]
                · have hTF : Hid (tx = false) := HT.out.symm.trans (all_not hfj hjl (digitB_not hd))
                  have q20 := r0.cell 0
                  have q21 := r0.cell 1
                  have q22 := r0.frozen 0
                  have q23 := r0.frozen 1
                  simp at q20 q21
                  have hd2 : (s[j].toNat : Int) < 48 ∨ (48 ≤ (s[j].toNat : Int) ∧ 57 < (s[j].toNat : Int)) := by omega
                  clear hd hall HV HT hown
                  rcases hd2 with h1 | ⟨h1, h2⟩
                  all_goals
                    go_wp2_with fail
                    refine bodyPost_ret (res_two (g := w.heap.size) rfl rfl rfl (by simpa using (r0.put 0 (.bool false)).put 1 (.slice none 0 0))) rfl ?_
                    exact ⟨false, none, 0, 0, by rw [hTF.out]; rfl, (fun h => by rw [hTF.out] at h; cases h), by go_grown⟩
end Go.Proofs.YtmbaohjekeiphaaGreatDoor
/- The law IntsParse: it returns true for every input. -/
namespace Go.Proofs.YtmbaohjekeiphaaGreatDoor
open Go.RowKit

theorem dig_back : ∀ m : List UInt8, m.all digitB = true → (digs m).reverse.map (fun d => UInt8.ofNat (48 + d)) = m := by
  intro m h
  unfold digs
  rw [← List.map_reverse, List.reverse_reverse, List.map_map]
  conv => rhs; rw [← List.map_id m]
  refine List.map_congr_left fun c hc => ?_
  have hd := List.all_eq_true.1 h c hc
  simp only [digitB, decide_eq_true_eq] at hd
  simp only [Function.comp, id_eq]
  rw [← UInt8.toNat_inj, UInt8.toNat_ofNat']
  omega
theorem pre_drop : ∀ l : List UInt8, preB (negB l) ++ l.drop (fromN l) = l
  | [] => rfl
  | c :: r => by
    unfold fromN
    have h := negB_list (c :: r) (by simp)
    simp only [List.getElem_cons_zero] at h
    rw [h]
    by_cases hc : c = 45
    · subst hc; rfl
    · simp [hc, preB]
theorem from_lt {l : List UInt8} (h : isTextB l = true) : fromN l < l.length := by
  rcases Nat.lt_or_ge (fromN l) l.length with q | q
  · exact q
  · have := text_short (l := l) (by have := from_le l; omega)
    rw [this] at h; cases h
theorem itoa_text {l : List UInt8} (h : isTextB l = true) : Lib.itoa (valB l) = l := by
  have hlt := from_lt h
  by_cases h48 : (l[fromN l]'hlt).toNat = 48
  · by_cases h1 : 1 < l.length
    · rw [text_zero hlt h48 h1] at h; cases h
    · have h5 : fromN l = 0 := by omega
      obtain ⟨c, rfl⟩ := List.length_eq_one_iff.1 (show l.length = 1 by omega)
      have hc : c.toNat = 48 := by simpa [h5] using h48
      have : c = 48 := by rw [← UInt8.toNat_inj]; exact hc
      subst this
      exact itoa_zero
  · rw [text_digits hlt (.inl h48)] at h
    have hst := digs_step l (fromN l) hlt
    have hc := all_step l (fromN l) hlt
    rw [h] at hc
    have hc2 := (Bool.and_eq_true_iff.1 hc.symm).1
    simp only [digitB, decide_eq_true_eq] at hc2
    have ht : tidy (digs (l.drop (fromN l))) := by
      intro x r e
      rw [hst] at e
      have := (List.append_inj' e rfl).2
      simp only [List.cons.injEq, and_true] at this
      omega
    have hne : digs (l.drop (fromN l)) ≠ [] := by rw [hst]; simp
    have h0 : numFrom 0 (l.drop (fromN l)) ≠ 0 := by
      rw [← digs_val]; exact fun e => hne ((tidy_zero ht).1 e)
    rw [valB_sgv, itoa_of (digs_10 h) ht (by rw [sgv_abs, digs_val]) hne, sgv_neg _ _ h0, txt, dig_back _ h, pre_drop]
theorem text_lim {l : List UInt8} (h : isTextB l = true) (hl : l.length ≤ 100) : (valB l).natAbs < lim := by
  have hlt := from_lt h
  have hd : (l.drop (fromN l)).all digitB = true := by rw [← bare_drop]; exact (bare_digits h).2
  rw [valB_sgv, sgv_abs, ← digs_val]
  have h1 := valD_lt (digs_10 hd)
  rw [digs_len, List.length_drop] at h1
  unfold lim
  exact Nat.lt_of_lt_of_le h1 (Nat.pow_le_pow_right (by omega) (by omega))
end Go.Proofs.YtmbaohjekeiphaaGreatDoor
