/- Digits of a number at places, the first place first, and what a mask asks of them. No program is in it but its strings. -/
import Derived.Test.YthgnoeigjngniaaMOf
namespace Go.Proofs.Ythgnoeigjngniaa

/-- The byte at a place. -/
def sat (s : ByteArray) (j : Nat) : UInt8 := if h : j < s.size then s[j] else 0
theorem sat_in {s : ByteArray} {j : Nat} (h : j < s.size) : sat s j = s[j] := dif_pos h
theorem pre_sat (s : ByteArray) (k : Nat) (h : k < s.size) : pre s (k + 1) = sat s k :: pre s k := by rw [pre_succ s k h, sat_in h]
def agr (c : UInt8) (d : Nat) : Prop := c.toNat = 88 ∨ c.toNat = d + 48
instance (c : UInt8) (d : Nat) : Decidable (agr c d) := by unfold agr; infer_instance
def dorN (c : UInt8) (d : Nat) : Nat := if c.toNat = 88 then d else c.toNat - 48
theorem plc_sat {s : ByteArray} (h : plcs (rv s)) {k : Nat} (hk : k < s.size) : plc (sat s k) := by rw [sat_in hk]; exact plc_at h k hk
theorem dorN_le {c : UInt8} (h : plc c) {d : Nat} (hd : d ≤ 9) : dorN c d ≤ 9 := by unfold plc at h; unfold dorN; split <;> omega
theorem dorN_agr {c : UInt8} (h : plc c) (d : Nat) : agr c (dorN c d) := by unfold plc at h; unfold dorN agr; split <;> omega
theorem agr_dorN {c : UInt8} (h : plc c) {d : Nat} : agr c d ↔ dorN c d = d := by unfold plc at h; unfold dorN agr; split <;> omega
theorem dorN_least {c : UInt8} (h : plc c) {d : Nat} (ha : agr c d) : dorN c 0 ≤ d := by unfold plc at h; unfold agr at ha; unfold dorN; split <;> omega

/-- The number that has digits f at the first k places. -/
def joinF (f : Nat → Nat) : Nat → Nat
  | 0 => 0
  | k + 1 => 10 * joinF f k + f k
def digF (L n j : Nat) : Nat := if j < L then n / 10 ^ (L - 1 - j) % 10 else 0
theorem digF_le (L n j : Nat) : digF L n j ≤ 9 := by unfold digF; split <;> omega
theorem joinF_lt {f : Nat → Nat} {k : Nat} (h : ∀ j, j < k → f j ≤ 9) : joinF f k < 10 ^ k := by
  induction k with
  | zero => simp [joinF]
  | succ k ih =>
    have := ih fun j hj => h j (by omega)
    have := h k (by omega)
    simp only [joinF, Nat.pow_succ]; omega
theorem joinF_congr {f g : Nat → Nat} {k : Nat} (h : ∀ j, j < k → f j = g j) : joinF f k = joinF g k := by
  induction k with
  | zero => rfl
  | succ k ih => simp only [joinF]; rw [ih fun j hj => h j (by omega), h k (by omega)]
theorem pow_split {L k : Nat} (h : k < L) : 10 ^ (L - k) = 10 ^ (L - 1 - k) * 10 := by rw [← Nat.pow_succ]; congr 1; omega
theorem div_split (n : Nat) {L k : Nat} (h : k < L) : n / 10 ^ (L - k) = n / 10 ^ (L - 1 - k) / 10 := by rw [pow_split h, Nat.div_div_eq_div_mul]
theorem joinF_part {n L : Nat} (hn : n < 10 ^ L) {k : Nat} (hk : k ≤ L) : joinF (digF L n) k = n / 10 ^ (L - k) := by
  induction k with
  | zero => simp only [joinF, Nat.sub_zero]; rw [Nat.div_eq_of_lt hn]
  | succ k ih =>
    simp only [joinF]
    rw [ih (by omega), div_split n (show k < L by omega), show L - (k + 1) = L - 1 - k by omega]
    unfold digF
    rw [if_pos (show k < L by omega)]
    omega
theorem joinF_dig {n L : Nat} (hn : n < 10 ^ L) : joinF (digF L n) L = n := by rw [joinF_part hn (Nat.le_refl _), Nat.sub_self, Nat.pow_zero, Nat.div_one]
theorem dig_step {L n k : Nat} (hk : k < L) : n / 10 ^ (L - 1 - k) % 10 = digF L n k ∧ n / 10 ^ (L - 1 - k) / 10 = n / 10 ^ (L - k) := ⟨by unfold digF; rw [if_pos hk], (div_split n hk).symm⟩

/-- Two rows of digits that differ first at q. -/
theorem join_lt {f g : Nat → Nat} {q k : Nat} (hq : q < k) (h9 : ∀ j, j < k → f j ≤ 9) (he : ∀ j, j < q → f j = g j) (hlt : f q < g q) : joinF f k < joinF g k := by
  induction k with
  | zero => omega
  | succ k ih =>
    have := h9 k (by omega)
    simp only [joinF]
    rcases Nat.lt_or_ge q k with h | h
    · have := ih h (fun j hj => h9 j (by omega)); omega
    · obtain rfl : q = k := by omega
      rw [joinF_congr he]; omega
theorem join_le {f g : Nat → Nat} {k : Nat} (h : ∀ j, j < k → f j ≤ g j) : joinF f k ≤ joinF g k := by
  induction k with
  | zero => exact Nat.le_refl _
  | succ k ih =>
    have := ih fun j hj => h j (by omega)
    have := h k (by omega)
    simp only [joinF]; omega
theorem first_diff (f g : Nat → Nat) (k : Nat) : (∀ j, j < k → f j = g j) ∨ ∃ q, q < k ∧ (∀ j, j < q → f j = g j) ∧ f q ≠ g q := by
  induction k with
  | zero => exact .inl fun j hj => by omega
  | succ k ih =>
    rcases ih with h | ⟨q, hq, h1, h2⟩
    · by_cases hk : f k = g k
      · refine .inl fun j hj => ?_
        rcases Nat.lt_or_ge j k with h' | h'
        · exact h j h'
        · obtain rfl : j = k := by omega
          exact hk
      · exact .inr ⟨k, by omega, h, hk⟩
    · exact .inr ⟨q, by omega, h1, h2⟩

theorem hasR_cons (c : UInt8) (r : List UInt8) (n : Nat) : hasR (c :: r) n = true ↔ agr c (n % 10) ∧ hasR r (n / 10) = true := by simp [hasR, agr]
/-- Digits are a number of the mask exactly if each agrees with its place. -/
theorem has_join (s : ByteArray) (g : Nat → Nat) (k : Nat) (hk : k ≤ s.size) (h9 : ∀ j, j < k → g j ≤ 9) : hasR (pre s k) (joinF g k) = true ↔ ∀ j, j < k → agr (sat s j) (g j) := by
  induction k with
  | zero => rw [pre_zero]; simp [hasR, joinF]
  | succ k ih =>
    have hk9 := h9 k (by omega)
    have h2 := ih (by omega) fun j hj => h9 j (by omega)
    rw [pre_sat s k (by omega), show joinF g (k + 1) = 10 * joinF g k + g k from rfl, hasR_cons, show (10 * joinF g k + g k) / 10 = joinF g k by omega, show (10 * joinF g k + g k) % 10 = g k by omega, h2]
    constructor
    · rintro ⟨h, h'⟩ j hj
      rcases Nat.lt_or_ge j k with h3 | h3
      · exact h' j h3
      · obtain rfl : j = k := by omega
        exact h
    · exact fun h => ⟨h k (by omega), fun j hj => h j (by omega)⟩
theorem has_join_all (s : ByteArray) (g : Nat → Nat) (h9 : ∀ j, j < s.size → g j ≤ 9) : hasR (rv s) (joinF g s.size) = true ↔ ∀ j, j < s.size → agr (sat s j) (g j) := by
  rw [← pre_all]; exact has_join s g _ (Nat.le_refl _) h9
theorem rv_lt {s : ByteArray} (h : plcs (rv s)) {u : Nat} (hu : hasR (rv s) u = true) : u < 10 ^ s.size := by have := has_lt h hu; rwa [rv_len] at this
theorem has_dig {s : ByteArray} {u : Nat} (hu : u < 10 ^ s.size) : hasR (rv s) u = true ↔ ∀ j, j < s.size → agr (sat s j) (digF s.size u j) := by
  have := has_join_all s (digF s.size u) fun j _ => digF_le _ _ _
  rwa [joinF_dig hu] at this

/-! ### Nth and Index by places -/
/-- How many X are among the first k places. -/
def cX (s : ByteArray) : Nat → Nat
  | 0 => 0
  | k + 1 => if (sat s k).toNat = 88 then cX s k + 1 else cX s k
theorem cX_le (s : ByteArray) (k : Nat) : cX s k ≤ k := by induction k with
  | zero => exact Nat.le_refl _
  | succ k ih => simp only [cX]; split <;> omega
theorem cX_mono (s : ByteArray) {k m : Nat} (h : k ≤ m) : cX s k ≤ cX s m := by
  induction m with
  | zero => obtain rfl : k = 0 := by omega
            exact Nat.le_refl _
  | succ m ih =>
    rcases Nat.lt_or_ge k (m + 1) with h' | h'
    · have := ih (by omega); simp only [cX]; split <;> omega
    · obtain rfl : k = m + 1 := by omega
      exact Nat.le_refl _
theorem cnt_cX (s : ByteArray) (k : Nat) (hk : k ≤ s.size) : cntR (pre s k) = 10 ^ cX s k := by
  induction k with
  | zero => rw [pre_zero]; rfl
  | succ k ih =>
    rw [pre_sat s k (by omega)]
    simp only [cntR, cX]
    rw [ih (by omega)]
    split
    · rw [Nat.pow_succ]; omega
    · rfl
theorem cnt_all (s : ByteArray) : cntR (rv s) = 10 ^ cX s s.size := by rw [← pre_all]; exact cnt_cX s _ (Nat.le_refl _)
theorem nth_part (s : ByteArray) (i M : Nat) (k : Nat) (hk : k ≤ s.size) (hM : cX s k ≤ M) :
    joinF (fun j => dorN (sat s j) (digF M i (cX s j))) k = nthR (pre s k) (i / 10 ^ (M - cX s k)) := by
  induction k with
  | zero => rw [pre_zero]; rfl
  | succ k ih =>
    have h1 := ih (by omega) (Nat.le_trans (cX_mono s (Nat.le_succ k)) hM)
    rw [pre_sat s k (by omega)]
    simp only [joinF, nthR]
    rw [h1]
    simp only [cX] at hM ⊢
    unfold dorN
    split
    · rename_i h88
      rw [if_pos h88] at hM
      obtain ⟨e1, e2⟩ := dig_step (n := i) (show cX s k < M by omega)
      rw [show M - (cX s k + 1) = M - 1 - cX s k by omega, e2, e1]; omega
    · omega
theorem nth_all (s : ByteArray) (i : Nat) : joinF (fun j => dorN (sat s j) (digF (cX s s.size) i (cX s j))) s.size = nthR (rv s) i := by
  rw [nth_part s i _ _ (Nat.le_refl _) (Nat.le_refl _), Nat.sub_self, Nat.pow_zero, Nat.div_one, pre_all]
theorem idx_step (s : ByteArray) (n k : Nat) (hk : k < s.size) :
    idxR (pre s (k + 1)) (n / 10 ^ (s.size - (k + 1))) = if (sat s k).toNat = 88 then 10 * idxR (pre s k) (n / 10 ^ (s.size - k)) + digF s.size n k else idxR (pre s k) (n / 10 ^ (s.size - k)) := by
  obtain ⟨e1, e2⟩ := dig_step (n := n) hk
  rw [pre_sat s k hk]
  simp only [idxR]
  rw [show s.size - (k + 1) = s.size - 1 - k by omega, e2, e1]
  split <;> omega
/-- One digit at all open places. -/
theorem fill0 (s : ByteArray) (k : Nat) (hk : k ≤ s.size) : joinF (fun j => dorN (sat s j) 0) k = nthR (pre s k) 0 := by
  induction k with
  | zero => rw [pre_zero]; rfl
  | succ k ih =>
    rw [pre_sat s k (by omega)]
    simp only [joinF, nthR]
    rw [ih (by omega), show 0 % 10 = 0 from rfl, show 0 / 10 = 0 from rfl]
    unfold dorN
    split <;> omega
theorem fill9 (s : ByteArray) (k : Nat) (hk : k ≤ s.size) : joinF (fun j => dorN (sat s j) 9) k = nthR (pre s k) (cntR (pre s k) - 1) := by
  induction k with
  | zero => rw [pre_zero]; rfl
  | succ k ih =>
    rw [pre_sat s k (by omega)]
    simp only [joinF, nthR, cntR]
    rw [ih (by omega)]
    have hp := cnt_pos (pre s k)
    unfold dorN
    split
    · rw [show (10 * cntR (pre s k) - 1) % 10 = 9 by omega, show (10 * cntR (pre s k) - 1) / 10 = cntR (pre s k) - 1 by omega]; omega
    · omega

/-! ### The next number -/
theorem next_found {s : ByteArray} (hm : plcs (rv s)) {n : Int} {N place p d0 : Nat} (hN : N < 10 ^ s.size) (hnN : n ≤ N) (hmin : ∀ u : Int, hasI (rv s) u = true → n ≤ u → (N : Int) ≤ u)
    (hpl : place < s.size) (hp : p ≤ place) (hb : ¬ agr (sat s place) (digF s.size N place)) (hc : ∀ j, j < place → agr (sat s j) (digF s.size N j))
    (ha : ∀ j, p < j → j ≤ place → ∀ d, digF s.size N j < d → d ≤ 9 → ¬ agr (sat s j) d)
    (h1 : digF s.size N p < d0) (h2 : d0 ≤ 9) (h3 : agr (sat s p) d0) (h4 : ∀ d, digF s.size N p < d → d < d0 → ¬ agr (sat s p) d)
    (g : Nat → Nat) (hg : ∀ j, j < s.size → g j = if j < p then digF s.size N j else if j = p then d0 else dorN (sat s j) 0) : nextS (rv s) n = some (joinF g s.size) := by
  have hg9 : ∀ j, j < s.size → g j ≤ 9 := fun j hj => by
    rw [hg j hj]
    split
    · exact digF_le _ _ _
    · split
      · exact h2
      · exact dorN_le (plc_sat hm hj) (by omega)
  have hgp : g p = d0 := by rw [hg p (by omega), if_neg (by omega), if_pos rfl]
  have hgl : ∀ j, j < p → g j = digF s.size N j := fun j hj => by rw [hg j (by omega), if_pos hj]
  refine nextS_of hm ((has_join_all s g hg9).2 fun j hj => ?_) ?_ fun u hu hn => ?_
  · rw [hg j hj]
    split
    · exact hc j (by omega)
    · split
      · rename_i h; rw [h]; exact h3
      · exact dorN_agr (plc_sat hm hj) 0
  · have : joinF (digF s.size N) s.size < joinF g s.size := join_lt (q := p) (by omega) (fun j _ => digF_le _ _ _) (fun j hj => (hgl j hj).symm) (by rw [hgp]; exact h1)
    rw [joinF_dig hN] at this; omega
  · have hNu := hmin u hu hn
    obtain ⟨v, rfl⟩ : ∃ v : Nat, u = v := ⟨u.toNat, by omega⟩
    rw [hasI_nat] at hu
    have hv := rv_lt hm hu
    have hagr := (has_dig hv).1 hu
    have hev := joinF_dig hv
    rcases first_diff (digF s.size N) (digF s.size v) s.size with he | ⟨q, hq, he, hne⟩
    · exact absurd (by rw [he place hpl]; exact hagr place hpl) hb
    · have hqp : q ≤ place := by
        rcases Nat.lt_or_ge place q with h | h
        · exact absurd (by rw [he place h]; exact hagr place hpl) hb
        · exact h
      have hlt : digF s.size N q < digF s.size v q := by
        rcases Nat.lt_or_ge (digF s.size N q) (digF s.size v q) with h | h
        · exact h
        · have := join_lt (f := digF s.size v) (g := digF s.size N) hq (fun j _ => digF_le _ _ _) (fun j hj => (he j hj).symm) (by omega)
          rw [joinF_dig hN, hev] at this; omega
      have hqp2 : q ≤ p := by
        rcases Nat.lt_or_ge p q with h | h
        · exact absurd (hagr q hq) (ha q h hqp _ hlt (digF_le _ _ _))
        · exact h
      suffices joinF g s.size ≤ joinF (digF s.size v) s.size by rw [hev] at this; omega
      rcases Nat.lt_or_eq_of_le hqp2 with h | rfl
      · exact Nat.le_of_lt (join_lt hq hg9 (fun j hj => by rw [hgl j (by omega)]; exact he j hj) (by rw [hgl q h]; exact hlt))
      · have hd0 : d0 ≤ digF s.size v q := by
          rcases Nat.lt_or_ge (digF s.size v q) d0 with h | h
          · exact absurd (hagr q hq) (h4 _ hlt h)
          · exact h
        rcases Nat.lt_or_eq_of_le hd0 with h | h
        · exact Nat.le_of_lt (join_lt hq hg9 (fun j hj => by rw [hgl j hj]; exact he j hj) (by rw [hgp]; exact h))
        · refine join_le fun j hj => ?_
          rw [hg j hj]
          split
          · rename_i h'; exact Nat.le_of_eq (he j h')
          · split
            · rename_i h'; rw [h', h]; exact Nat.le_refl _
            · exact dorN_least (plc_sat hm hj) (hagr j hj)
theorem next_gone {s : ByteArray} (hm : plcs (rv s)) {n : Int} {N place : Nat} (hN : N < 10 ^ s.size) (hmin : ∀ u : Int, hasI (rv s) u = true → n ≤ u → (N : Int) ≤ u)
    (hpl : place < s.size) (hb : ¬ agr (sat s place) (digF s.size N place))
    (ha : ∀ j, j ≤ place → ∀ d, digF s.size N j < d → d ≤ 9 → ¬ agr (sat s j) d) : nextS (rv s) n = none := by
  refine nextS_out hm fun u hu => ?_
  rcases Int.lt_or_le u n with h | hn
  · exact h
  exfalso
  have hNu := hmin u hu hn
  obtain ⟨v, rfl⟩ : ∃ v : Nat, u = v := ⟨u.toNat, by omega⟩
  rw [hasI_nat] at hu
  have hv := rv_lt hm hu
  have hagr := (has_dig hv).1 hu
  have hev := joinF_dig hv
  rcases first_diff (digF s.size N) (digF s.size v) s.size with he | ⟨q, hq, he, hne⟩
  · exact absurd (by rw [he place hpl]; exact hagr place hpl) hb
  · have hqp : q ≤ place := by
      rcases Nat.lt_or_ge place q with h | h
      · exact absurd (by rw [he place h]; exact hagr place hpl) hb
      · exact h
    rcases Nat.lt_or_ge (digF s.size N q) (digF s.size v q) with h | h
    · exact ha q hqp _ h (digF_le _ _ _) (hagr q hq)
    · have := join_lt (f := digF s.size v) (g := digF s.size N) hq (fun j _ => digF_le _ _ _) (fun j hj => (he j hj).symm) (by omega)
      rw [joinF_dig hN, hev] at this; omega
theorem next_self {s : ByteArray} (hm : plcs (rv s)) {n : Int} {N : Nat} (hN : N < 10 ^ s.size) (hnN : n ≤ N) (hmin : ∀ u : Int, hasI (rv s) u = true → n ≤ u → (N : Int) ≤ u)
    (hc : ∀ j, j < s.size → agr (sat s j) (digF s.size N j)) : nextS (rv s) n = some N := nextS_of hm ((has_dig hN).2 hc) hnN hmin
theorem next_beyond {s : ByteArray} (hm : plcs (rv s)) {n : Int} (h : (10 ^ s.size : Nat) ≤ n) : nextS (rv s) n = none := by
  refine nextS_out hm fun u hu => ?_
  obtain ⟨i, _, rfl⟩ := hasI_idx hu
  have := nth_lt hm i
  rw [rv_len] at this
  omega

/-! ### What the numbers leave to all nines -/
def mirB (c : UInt8) : UInt8 := if c.toNat = 88 then c else UInt8.ofNat (105 - c.toNat)
theorem mirB_plc {c : UInt8} (h : plc c) : plc (mirB c) := by
  unfold plc at h; unfold mirB; split
  · rename_i h'; exact .inl h'
  · right; rw [UInt8.toNat_ofNat', Nat.mod_eq_of_lt (by omega)]; omega
theorem mirB_agr {c : UInt8} (h : plc c) {d : Nat} (hd : d ≤ 9) : agr (mirB c) d ↔ agr c (9 - d) := by
  unfold plc at h; unfold mirB agr; split
  · rename_i h'; omega
  · rw [UInt8.toNat_ofNat', Nat.mod_eq_of_lt (by omega)]; omega
theorem mir_join (g : Nat → Nat) (k : Nat) (h9 : ∀ j, j < k → g j ≤ 9) : joinF (fun j => 9 - g j) k + joinF g k + 1 = 10 ^ k := by
  induction k with
  | zero => rfl
  | succ k ih =>
    have := ih fun j hj => h9 j (by omega)
    have := h9 k (by omega)
    simp only [joinF, Nat.pow_succ]; omega
/-- s' is the mask of what the numbers of s leave. -/
theorem mir_has {s s' : ByteArray} (hm : plcs (rv s)) (hz : s'.size = s.size) (hs : ∀ j, j < s.size → sat s' j = mirB (sat s j)) {u : Nat} (hu : u < 10 ^ s.size) :
    hasR (rv s') u = true ↔ hasR (rv s) (10 ^ s.size - 1 - u) = true := by
  have h9 : ∀ j, j < s.size → digF s.size u j ≤ 9 := fun j _ => digF_le _ _ _
  have e := mir_join (digF s.size u) s.size h9
  rw [joinF_dig hu] at e
  rw [show 10 ^ s.size - 1 - u = joinF (fun j => 9 - digF s.size u j) s.size by omega, has_join_all s _ (fun j _ => by have := digF_le s.size u j; omega)]
  rw [has_dig (by rw [hz]; exact hu), hz]
  constructor
  · intro h j hj
    have := h j hj
    rw [hs j hj] at this
    exact (mirB_agr (plc_sat hm hj) (digF_le _ _ _)).1 this
  · intro h j hj
    rw [hs j hj]
    exact (mirB_agr (plc_sat hm hj) (digF_le _ _ _)).2 (h j hj)
theorem mir_plcs {s s' : ByteArray} (hm : plcs (rv s)) (hz : s'.size = s.size) (hs : ∀ j, j < s.size → sat s' j = mirB (sat s j)) : plcs (rv s') := by
  intro c hc
  unfold rv at hc
  rw [List.mem_reverse] at hc
  obtain ⟨j, hj, rfl⟩ := List.getElem_of_mem hc
  have hj' : j < s'.size := by rw [size_l]; exact hj
  have h1 : s'.data.toList[j] = sat s' j := by rw [sat_in hj']; rfl
  rw [h1, hs j (by omega)]
  exact mirB_plc (plc_sat hm (by omega))
theorem mir_prev {s s' : ByteArray} (hm : plcs (rv s)) (hz : s'.size = s.size) (hs : ∀ j, j < s.size → sat s' j = mirB (sat s j)) {n : Int} (hn : 0 ≤ n) :
    prevS (rv s) n = (nextS (rv s') ((10 ^ s.size : Nat) - 1 - n)).map (fun v => 10 ^ s.size - 1 - v) := by
  have hm' := mir_plcs hm hz hs
  have hpos : 0 < 10 ^ s.size := Nat.pow_pos (by omega)
  have key : ∀ v : Nat, hasR (rv s) v = true → hasI (rv s') ((10 ^ s.size - 1 - v : Nat) : Int) = true := fun v hv => by
    have := rv_lt hm hv
    rw [hasI_nat]
    refine (mir_has hm hz hs (by omega)).2 ?_
    rw [show 10 ^ s.size - 1 - (10 ^ s.size - 1 - v) = v by omega]; exact hv
  cases hx : nextS (rv s') ((10 ^ s.size : Nat) - 1 - n) with
  | none =>
    refine prevS_out hm fun u hu => ?_
    obtain ⟨v, rfl⟩ : ∃ v : Nat, u = v := by obtain ⟨i, _, rfl⟩ := hasI_idx hu; exact ⟨_, rfl⟩
    rw [hasI_nat] at hu
    have h1 := nextS_none hx (key v hu)
    have := rv_lt hm hu
    omega
  | some v =>
    obtain ⟨h1, h2, h3⟩ := nextS_some hm' hx
    have hv := rv_lt hm' h1
    rw [hz] at hv
    show prevS (rv s) n = some (10 ^ s.size - 1 - v)
    refine prevS_of hm ((mir_has hm hz hs hv).1 h1) (by omega) fun u hu hn' => ?_
    obtain ⟨x, rfl⟩ : ∃ v : Nat, u = v := by obtain ⟨i, _, rfl⟩ := hasI_idx hu; exact ⟨_, rfl⟩
    rw [hasI_nat] at hu
    have h4 := h3 _ (key x hu) (by have := rv_lt hm hu; omega)
    have := rv_lt hm hu
    omega
end Go.Proofs.Ythgnoeigjngniaa
