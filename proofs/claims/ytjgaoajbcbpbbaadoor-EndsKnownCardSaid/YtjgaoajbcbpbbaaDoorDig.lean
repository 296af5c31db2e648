/- Digits, the least first, as lists of numbers: what they come to, and how that turns when a digit is laid behind them or struck. No program. -/
namespace Go.Proofs.YtjgaoajbcbpbbaaDoor

def valD : List Nat → Nat
  | [] => 0
  | d :: r => d + 10 * valD r
def dig10 (ds : List Nat) : Prop := ∀ d ∈ ds, d < 10
theorem dig10_nil : dig10 [] := fun d hd => by cases hd
theorem dig10_snoc {ds : List Nat} (h : dig10 ds) {d : Nat} (hd : d < 10) : dig10 (ds ++ [d]) := fun x hx => by
  rcases List.mem_append.1 hx with h1 | h1
  · exact h x h1
  · rw [List.mem_singleton.1 h1]; exact hd
theorem dig10_take {ds : List Nat} (h : dig10 ds) (k : Nat) : dig10 (ds.take k) := fun x hx => h x (List.mem_of_mem_take hx)
theorem dig10_at {ds : List Nat} (h : dig10 ds) (k : Nat) : ds.getD k 0 < 10 := by
  rw [List.getD_eq_getElem?_getD]
  cases hk : ds[k]? with
  | none => simp
  | some x => simp; exact h x (List.mem_of_getElem? hk)
theorem valD_snoc (ds : List Nat) (d : Nat) : valD (ds ++ [d]) = valD ds + 10 ^ ds.length * d := by
  induction ds with
  | nil => simp [valD]
  | cons x r ih =>
    simp only [List.cons_append, valD, ih, List.length_cons, Nat.pow_succ, Nat.mul_add]
    have : 10 * (10 ^ r.length * d) = 10 ^ r.length * 10 * d := by rw [← Nat.mul_assoc, Nat.mul_comm 10]
    omega
theorem valD_lt {ds : List Nat} (h : dig10 ds) : valD ds < 10 ^ ds.length := by
  induction ds with
  | nil => simp [valD]
  | cons x r ih =>
    have h1 := h x (by simp)
    have h2 := ih fun d hd => h d (by simp [hd])
    simp only [valD, List.length_cons, Nat.pow_succ]
    omega
/-- What stands from place k on: its first digit, and ten times what stands behind. -/
theorem valD_drop (ds : List Nat) (k : Nat) : valD (ds.drop k) = ds.getD k 0 + 10 * valD (ds.drop (k + 1)) := by
  by_cases hk : k < ds.length
  · rw [List.drop_eq_getElem_cons hk, valD, List.getD_eq_getElem?_getD, List.getElem?_eq_getElem hk]; rfl
  · rw [List.drop_of_length_le (by omega), List.drop_of_length_le (by omega), List.getD_eq_getElem?_getD, List.getElem?_eq_none (by omega)]; rfl
theorem valD_zero {ds : List Nat} (h : ds.all (· == 0) = true) : valD ds = 0 := by
  induction ds with
  | nil => rfl
  | cons x r ih =>
    simp only [List.all_cons, Bool.and_eq_true, beq_iff_eq] at h
    simp only [valD, ih h.2, h.1]
/-- No zero at the end. -/
def tidy (ds : List Nat) : Prop := ∀ x r, ds = r ++ [x] → x ≠ 0
theorem tidy_nil : tidy [] := fun x r h => by simp at h
theorem tidy_lo {ds : List Nat} (ht : tidy ds) (hne : ds ≠ []) : 10 ^ (ds.length - 1) ≤ valD ds := by
  obtain ⟨r, x, rfl⟩ : ∃ r x, ds = r ++ [x] := ⟨ds.dropLast, ds.getLast hne, (List.dropLast_concat_getLast hne).symm⟩
  have := ht x r rfl
  rw [valD_snoc, List.length_append]
  simp only [List.length_cons, List.length_nil, Nat.zero_add, Nat.add_sub_cancel]
  have h1 : 10 ^ r.length * 1 ≤ 10 ^ r.length * x := Nat.mul_le_mul_left _ (by omega)
  omega
theorem tidy_zero {ds : List Nat} (ht : tidy ds) : valD ds = 0 ↔ ds = [] := by
  constructor
  · intro h
    by_cases hne : ds = []
    · exact hne
    · have h1 := tidy_lo ht hne
      have h2 : 0 < 10 ^ (ds.length - 1) := Nat.pow_pos (by omega)
      omega
  · rintro rfl; rfl
theorem tidy_len {ds : List Nat} (ht : tidy ds) {k : Nat} (h : valD ds < 10 ^ k) : ds.length ≤ k := by
  by_cases hne : ds = []
  · subst hne; simp
  · have h1 := tidy_lo ht hne
    rcases Nat.lt_or_ge k ds.length with h2 | h2
    · have h3 : 10 ^ k ≤ 10 ^ (ds.length - 1) := Nat.pow_le_pow_right (by omega) (by omega)
      omega
    · exact h2
/-- More digits, the greater number. -/
theorem valD_longer {as bs : List Nat} (ha : dig10 as) (hb : tidy bs) (h : as.length < bs.length) : valD as < valD bs := by
  have h1 := valD_lt ha
  have h2 := tidy_lo hb (by intro e; subst e; simp at h)
  have h3 : 10 ^ as.length ≤ 10 ^ (bs.length - 1) := Nat.pow_le_pow_right (by omega) (by omega)
  omega
/-- The digits up to place k, and what stands from there on. -/
theorem valD_split (ds : List Nat) (k : Nat) (hk : k ≤ ds.length) : valD ds = valD (ds.take k) + 10 ^ k * valD (ds.drop k) := by
  induction k with
  | zero => simp [valD]
  | succ k ih =>
    rw [ih (by omega), List.take_succ_eq_append_getElem (by omega), valD_snoc, List.length_take, Nat.min_eq_left (by omega), valD_drop ds k, Nat.pow_succ, List.getD_eq_getElem?_getD, List.getElem?_eq_getElem (by omega)]
    simp only [Option.getD_some, Nat.mul_add]
    have : 10 ^ k * (10 * valD (ds.drop (k + 1))) = 10 ^ k * 10 * valD (ds.drop (k + 1)) := by rw [Nat.mul_assoc]
    omega
theorem take_strike {ds : List Nat} {k : Nat} (hk : k < ds.length) (h0 : ds.getD k 0 = 0) : valD (ds.take (k + 1)) = valD (ds.take k) := by
  rw [List.take_succ_eq_append_getElem hk, valD_snoc]
  have : ds[k] = 0 := by rw [List.getD_eq_getElem?_getD, List.getElem?_eq_getElem hk] at h0; simpa using h0
  rw [this, Nat.mul_zero, Nat.add_zero]
theorem tidy_take {ds : List Nat} {k : Nat} (hk : k < ds.length) (h0 : ds.getD k 0 ≠ 0) : tidy (ds.take (k + 1)) := fun x r h => by
  rw [List.take_succ_eq_append_getElem hk] at h
  have := (List.append_inj' h rfl).2
  simp only [List.cons.injEq, and_true] at this
  rw [List.getD_eq_getElem?_getD, List.getElem?_eq_getElem hk] at h0
  rw [← this]; simpa using h0
/-- Two rows that are alike above place k: their order is that of their digits there. -/
theorem less_at {as bs : List Nat} (ha : dig10 as) (hb : dig10 bs) {k : Nat} (hka : k < as.length) (hkb : k < bs.length) (hd : valD (as.drop (k + 1)) = valD (bs.drop (k + 1))) (hne : as.getD k 0 ≠ bs.getD k 0) :
    valD as < valD bs ↔ as.getD k 0 < bs.getD k 0 := by
  rw [valD_split as k (by omega), valD_split bs k (by omega), valD_drop as k, valD_drop bs k, hd]
  have h1 := valD_lt (dig10_take ha k)
  have h2 := valD_lt (dig10_take hb k)
  rw [List.length_take, Nat.min_eq_left (by omega)] at h1 h2
  generalize valD (as.take k) = p at *
  generalize valD (bs.take k) = q at *
  generalize valD (bs.drop (k + 1)) = R at *
  generalize as.getD k 0 = x at *
  generalize bs.getD k 0 = y at *
  generalize 10 ^ k = P at *
  constructor
  · intro h
    rcases Nat.lt_or_ge x y with h3 | h3
    · exact h3
    · have h4 : P * (y + 1 + 10 * R) ≤ P * (x + 10 * R) := Nat.mul_le_mul_left _ (by omega)
      rw [show y + 1 + 10 * R = (y + 10 * R) + 1 by omega, Nat.mul_add, Nat.mul_one] at h4
      omega
  · intro h
    have h4 : P * (x + 1 + 10 * R) ≤ P * (y + 10 * R) := Nat.mul_le_mul_left _ (by omega)
    rw [show x + 1 + 10 * R = (x + 10 * R) + 1 by omega, Nat.mul_add, Nat.mul_one] at h4
    omega
theorem drop_at {as bs : List Nat} {k : Nat} (hd : valD (as.drop (k + 1)) = valD (bs.drop (k + 1))) (he : as.getD k 0 = bs.getD k 0) : valD (as.drop k) = valD (bs.drop k) := by
  rw [valD_drop as k, valD_drop bs k, hd, he]
theorem drop_le (ds : List Nat) (k : Nat) (hk : k ≤ ds.length) : valD (ds.drop k) ≤ valD ds := by
  rw [valD_split ds k hk]
  have h1 : 1 * valD (ds.drop k) ≤ 10 ^ k * valD (ds.drop k) := Nat.mul_le_mul_right _ (Nat.pow_pos (by omega))
  omega
theorem valD_set (ds : List Nat) (d : Nat) : ∀ j, j < ds.length → valD (ds.set j d) + 10 ^ j * ds.getD j 0 = valD ds + 10 ^ j * d := by
  induction ds with
  | nil => intro j h; simp at h
  | cons x r ih =>
    intro j h
    rcases j with _ | j
    · simp [valD]; omega
    · have h1 := ih j (by simpa using h)
      simp only [List.set_cons_succ, valD, List.getD_cons_succ, Nat.pow_succ]
      have e1 : 10 ^ j * 10 * r.getD j 0 = 10 * (10 ^ j * r.getD j 0) := by rw [Nat.mul_right_comm, Nat.mul_comm]
      have e2 : 10 ^ j * 10 * d = 10 * (10 ^ j * d) := by rw [Nat.mul_right_comm, Nat.mul_comm]
      rw [e1, e2]
      omega
theorem dig10_set {ds : List Nat} (h : dig10 ds) {j d : Nat} (hd : d < 10) : dig10 (ds.set j d) := fun x hx => by
  rcases List.mem_or_eq_of_mem_set hx with h1 | h1
  · exact h x h1
  · rw [h1]; exact hd
theorem valD_take_succ (ds : List Nat) (k : Nat) : valD (ds.take (k + 1)) = valD (ds.take k) + 10 ^ k * ds.getD k 0 := by
  by_cases hk : k < ds.length
  · rw [List.take_succ_eq_append_getElem hk, valD_snoc, List.length_take, Nat.min_eq_left (by omega), List.getD_eq_getElem?_getD, List.getElem?_eq_getElem hk]; rfl
  · rw [List.take_of_length_le (by omega), List.take_of_length_le (by omega), List.getD_eq_getElem?_getD, List.getElem?_eq_none (by omega)]; simp
theorem getD_set_same (ds : List Nat) (j d : Nat) (h : j < ds.length) : (ds.set j d).getD j 0 = d := by
  rw [List.getD_eq_getElem?_getD, List.getElem?_set_self h]; rfl
theorem getD_set_other (ds : List Nat) {j k : Nat} (d : Nat) (h : j ≠ k) : (ds.set j d).getD k 0 = ds.getD k 0 := by
  rw [List.getD_eq_getElem?_getD, List.getD_eq_getElem?_getD, List.getElem?_set_ne h]
/-- One step of the product on paper: P is 10 to the i, R to the k. -/
theorem mul_step {o o' P R x y c c' d z V T s : Nat} (h : o + P * R * c = V + P * (x * T)) (hset : o' + P * R * z = o + P * R * d) (hs : s = z + x * y + c) (hd : d = s % 10) (hc : c' = s / 10) :
    o' + P * (R * 10) * c' = V + P * (x * (T + R * y)) := by
  have e1 : P * (R * 10) * c' = P * R * (10 * c') := by rw [← Nat.mul_assoc P R 10, Nat.mul_assoc (P * R)]
  have e2 : P * (x * (T + R * y)) = P * (x * T) + P * R * (x * y) := by
    rw [Nat.mul_add, Nat.mul_add, Nat.mul_left_comm x R y, ← Nat.mul_assoc P R]
  rw [e1, e2]
  have e3 : d + 10 * c' = z + x * y + c := by omega
  have e4 : P * R * (d + 10 * c') = P * R * (z + x * y + c) := by rw [e3]
  simp only [Nat.mul_add] at e4
  omega
/-- One step of the sum on paper: P is the place's power. -/
theorem sum_step {P o A B x y c V s : Nat} (h : o + P * (c + (x + 10 * A) + (y + 10 * B)) = V) (hs : s = x + y + c) : (o + P * (s % 10)) + P * 10 * (s / 10 + A + B) = V := by
  subst hs h
  have e : P * 10 * ((x + y + c) / 10 + A + B) = P * (10 * ((x + y + c) / 10 + A + B)) := Nat.mul_assoc _ _ _
  rw [e, Nat.add_assoc, ← Nat.mul_add]
  congr 2
  omega
end Go.Proofs.YtjgaoajbcbpbbaaDoor
