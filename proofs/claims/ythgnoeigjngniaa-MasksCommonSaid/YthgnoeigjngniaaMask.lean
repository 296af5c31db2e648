/- Masks as rows of bytes, the last place first: how many numbers one has, the one with an index, and the index of one; which numbers lie below a number; what two masks have in common. No program is in it. -/
import Derived.Lib.ItoaNum
namespace Go.Proofs.Ythgnoeigjngniaa

def plc (c : UInt8) : Prop := c.toNat = 88 ∨ (48 ≤ c.toNat ∧ c.toNat ≤ 57)
instance (c : UInt8) : Decidable (plc c) := by unfold plc; infer_instance
def plcs (r : List UInt8) : Prop := ∀ c ∈ r, plc c
def cntR : List UInt8 → Nat
  | [] => 1
  | c :: r => if c.toNat = 88 then 10 * cntR r else cntR r
def nthR : List UInt8 → Nat → Nat
  | [], _ => 0
  | c :: r, i => if c.toNat = 88 then i % 10 + 10 * nthR r (i / 10) else (c.toNat - 48) + 10 * nthR r i
def idxR : List UInt8 → Nat → Nat
  | [], _ => 0
  | c :: r, n => if c.toNat = 88 then n % 10 + 10 * idxR r (n / 10) else idxR r (n / 10)
def hasR : List UInt8 → Nat → Bool
  | [], n => decide (n = 0)
  | c :: r, n => decide (c.toNat = 88 ∨ c.toNat = n % 10 + 48) && hasR r (n / 10)

theorem plcs_nil : plcs [] := fun _ h => by cases h
theorem plcs.tail {c : UInt8} {r : List UInt8} (h : plcs (c :: r)) : plcs r := fun d hd => h d (by simp [hd])
theorem plcs.head {c : UInt8} {r : List UInt8} (h : plcs (c :: r)) : plc c := h c (by simp)
theorem plcs.rev {r : List UInt8} (h : plcs r) : plcs r.reverse := fun d hd => h d (by simpa using hd)
theorem plcs.cons {c : UInt8} {r : List UInt8} (hc : plc c) (h : plcs r) : plcs (c :: r) := fun d hd => by
  rcases List.mem_cons.1 hd with rfl | h'
  · exact hc
  · exact h d h'

theorem cnt_pos (r : List UInt8) : 0 < cntR r := by
  induction r with
  | nil => simp [cntR]
  | cons c r ih => simp only [cntR]; split <;> omega
theorem cnt_le (r : List UInt8) : cntR r ≤ 10 ^ r.length := by
  induction r with
  | nil => simp [cntR]
  | cons c r ih => simp only [cntR, List.length_cons, Nat.pow_succ]; split <;> omega
theorem nth_lt {r : List UInt8} (h : plcs r) (i : Nat) : nthR r i < 10 ^ r.length := by
  induction r generalizing i with
  | nil => simp [nthR]
  | cons c r ih =>
    have hc := h.head
    have h1 := ih h.tail (i / 10)
    have h2 := ih h.tail i
    unfold plc at hc
    simp only [nthR, List.length_cons, Nat.pow_succ]
    split <;> omega
theorem has_nth {r : List UInt8} (h : plcs r) (i : Nat) : hasR r (nthR r i) = true := by
  induction r generalizing i with
  | nil => simp [hasR, nthR]
  | cons c r ih =>
    have hc := h.head
    unfold plc at hc
    simp only [nthR, hasR]
    split
    · rename_i h88
      rw [show (i % 10 + 10 * nthR r (i / 10)) / 10 = nthR r (i / 10) by omega, ih h.tail]
      simp [h88]
    · rename_i h88
      rw [show (c.toNat - 48 + 10 * nthR r i) / 10 = nthR r i by omega, ih h.tail]
      simp only [Bool.and_true, decide_eq_true_eq]
      right; omega
theorem idx_nth {r : List UInt8} (h : plcs r) (i : Nat) (hi : i < cntR r) : idxR r (nthR r i) = i := by
  induction r generalizing i with
  | nil => simp only [cntR] at hi; simp [idxR]; omega
  | cons c r ih =>
    have hc := h.head
    unfold plc at hc
    simp only [nthR, idxR]
    simp only [cntR] at hi
    split
    · rename_i h88
      rw [if_pos h88] at hi
      rw [show (i % 10 + 10 * nthR r (i / 10)) / 10 = nthR r (i / 10) by omega, ih h.tail _ (by omega)]
      omega
    · rename_i h88
      rw [if_neg h88] at hi
      rw [show (c.toNat - 48 + 10 * nthR r i) / 10 = nthR r i by omega, ih h.tail _ hi]
theorem nth_idx {r : List UInt8} (n : Nat) (hn : hasR r n = true) : nthR r (idxR r n) = n := by
  induction r generalizing n with
  | nil => simp only [hasR, decide_eq_true_eq] at hn; simp [nthR, hn]
  | cons c r ih =>
    simp only [hasR, Bool.and_eq_true, decide_eq_true_eq] at hn
    simp only [nthR, idxR]
    split
    · rename_i h88
      rw [show (n % 10 + 10 * idxR r (n / 10)) / 10 = idxR r (n / 10) by omega, ih _ hn.2]
      omega
    · rename_i h88
      rw [ih _ hn.2]; omega
theorem idx_lt (r : List UInt8) (n : Nat) : idxR r n < cntR r := by
  induction r generalizing n with
  | nil => simp [idxR, cntR]
  | cons c r ih =>
    have := ih (n / 10)
    simp only [idxR, cntR]
    split <;> omega
theorem nth_mono (r : List UInt8) {i j : Nat} (hij : i < j) (hj : j < cntR r) : nthR r i < nthR r j := by
  induction r generalizing i j with
  | nil => simp only [cntR] at hj; omega
  | cons c r ih =>
    simp only [cntR] at hj
    simp only [nthR]
    split
    · rename_i h88
      rw [if_pos h88] at hj
      rcases Nat.lt_or_ge (i / 10) (j / 10) with h | h
      · have := ih h (by omega); omega
      · have : i / 10 = j / 10 := by omega
        rw [this]; omega
    · rename_i h88
      rw [if_neg h88] at hj
      have := ih hij hj; omega
theorem nth_mono' (r : List UInt8) {i j : Nat} (hij : i ≤ j) (hj : j < cntR r) : nthR r i ≤ nthR r j := by
  rcases Nat.lt_or_eq_of_le hij with h | rfl
  · exact Nat.le_of_lt (nth_mono r h hj)
  · exact Nat.le_refl _
theorem has_lt {r : List UInt8} (h : plcs r) {n : Nat} (hn : hasR r n = true) : n < 10 ^ r.length := by
  rw [← nth_idx n hn]; exact nth_lt h _

/-- Whether a whole number is one of the mask's. -/
def hasI (r : List UInt8) (n : Int) : Bool := decide (0 ≤ n) && hasR r n.toNat
theorem hasI_nat (r : List UInt8) (n : Nat) : hasI r (n : Int) = hasR r n := by simp [hasI]
theorem hasI_neg (r : List UInt8) {n : Int} (h : n < 0) : hasI r n = false := by
  have : ¬ 0 ≤ n := by omega
  simp [hasI, this]
theorem hasI_nth {r : List UInt8} (h : plcs r) (i : Nat) : hasI r (nthR r i : Nat) = true := by rw [hasI_nat]; exact has_nth h i
theorem hasI_idx {r : List UInt8} {n : Int} (h : hasI r n = true) : ∃ i, i < cntR r ∧ n = (nthR r i : Nat) := by
  simp only [hasI, Bool.and_eq_true, decide_eq_true_eq] at h
  refine ⟨idxR r n.toNat, idx_lt _ _, ?_⟩
  rw [nth_idx _ h.2]; omega

/-- How many of the first m numbers lie below n. -/
def blwN (r : List UInt8) (n : Int) : Nat → Nat
  | 0 => 0
  | m + 1 => if (nthR r m : Int) < n then m + 1 else blwN r n m
def blw (r : List UInt8) (n : Int) : Nat := blwN r n (cntR r)
theorem blwN_spec (r : List UInt8) (n : Int) (m : Nat) (hm : m ≤ cntR r) :
    blwN r n m ≤ m ∧ (∀ i, i < blwN r n m → (nthR r i : Int) < n) ∧ ∀ i, blwN r n m ≤ i → i < m → n ≤ (nthR r i : Int) := by
  induction m with
  | zero => exact ⟨Nat.le_refl _, fun i hi => by simp [blwN] at hi, fun i _ hi => by omega⟩
  | succ m ih =>
    obtain ⟨h1, h2, h3⟩ := ih (by omega)
    simp only [blwN]
    split
    · rename_i hlt
      refine ⟨Nat.le_refl _, fun i hi => ?_, fun i _ hi => by omega⟩
      have := nth_mono' r (i := i) (j := m) (by omega) (by omega)
      omega
    · rename_i hge
      refine ⟨by omega, h2, fun i hi hm' => ?_⟩
      rcases Nat.lt_or_eq_of_le (show i ≤ m by omega) with h | rfl
      · exact h3 i hi h
      · omega
theorem blw_le (r : List UInt8) (n : Int) : blw r n ≤ cntR r := (blwN_spec r n _ (Nat.le_refl _)).1
theorem blw_lt {r : List UInt8} {n : Int} {i : Nat} (h : i < blw r n) : (nthR r i : Int) < n := (blwN_spec r n _ (Nat.le_refl _)).2.1 i h
theorem blw_ge {r : List UInt8} {n : Int} {i : Nat} (h : blw r n ≤ i) (hi : i < cntR r) : n ≤ (nthR r i : Int) := (blwN_spec r n _ (Nat.le_refl _)).2.2 i h hi
theorem blw_of {r : List UInt8} {n : Int} {k : Nat} (hk : k ≤ cntR r) (h1 : ∀ i, i < k → (nthR r i : Int) < n) (h2 : ∀ i, k ≤ i → i < cntR r → n ≤ (nthR r i : Int)) : blw r n = k := by
  have h3 := blw_le r n
  rcases Nat.lt_trichotomy (blw r n) k with h | h | h
  · have := h1 _ h; have := blw_ge (Nat.le_refl _) (show blw r n < cntR r by omega); omega
  · exact h
  · have := blw_lt h; have := h2 k (Nat.le_refl _) (by omega); omega
theorem blw_has {r : List UInt8} {n : Int} (hn : hasI r n = true) : blw r n = idxR r n.toNat ∧ blw r n < cntR r ∧ (nthR r (blw r n) : Int) = n := by
  simp only [hasI, Bool.and_eq_true, decide_eq_true_eq] at hn
  have hx := nth_idx _ hn.2
  have hl := idx_lt r n.toNat
  have : blw r n = idxR r n.toNat := blw_of (Nat.le_of_lt hl)
    (fun i hi => by have := nth_mono r hi hl; omega) (fun i hi hc => by have := nth_mono' r hi hc; omega)
  refine ⟨this, by omega, ?_⟩
  rw [this, hx]; omega

/-- The least number of the mask that is at least n, and the greatest one that is at most n. -/
def nextS (r : List UInt8) (n : Int) : Option Nat := if blw r n = cntR r then none else some (nthR r (blw r n))
def prevS (r : List UInt8) (n : Int) : Option Nat := if hasI r n = true then some n.toNat else if blw r n = 0 then none else some (nthR r (blw r n - 1))
theorem nextS_some {r : List UInt8} (hr : plcs r) {n : Int} {v : Nat} (h : nextS r n = some v) : hasR r v = true ∧ n ≤ v ∧ ∀ u : Int, hasI r u = true → n ≤ u → (v : Int) ≤ u := by
  unfold nextS at h
  split at h
  · cases h
  · rename_i hne
    obtain rfl := Option.some.inj h
    have hlt : blw r n < cntR r := by have := blw_le r n; omega
    refine ⟨has_nth hr _, blw_ge (Nat.le_refl _) hlt, fun u hu hn => ?_⟩
    obtain ⟨i, hi, rfl⟩ := hasI_idx hu
    rcases Nat.lt_or_ge i (blw r n) with h' | h'
    · have := blw_lt h'; omega
    · have := nth_mono' r h' hi; omega
theorem nextS_none {r : List UInt8} {n : Int} (h : nextS r n = none) {u : Int} (hu : hasI r u = true) : u < n := by
  unfold nextS at h
  split at h
  · rename_i he
    obtain ⟨i, hi, rfl⟩ := hasI_idx hu
    exact blw_lt (by omega)
  · cases h
theorem nextS_of {r : List UInt8} (hr : plcs r) {n : Int} {v : Nat} (h1 : hasR r v = true) (h2 : n ≤ v) (h3 : ∀ u : Int, hasI r u = true → n ≤ u → (v : Int) ≤ u) : nextS r n = some v := by
  have h1' : hasI r (v : Int) = true := by rw [hasI_nat]; exact h1
  cases h : nextS r n with
  | none => have := nextS_none h h1'; omega
  | some u =>
    obtain ⟨g1, g2, g3⟩ := nextS_some hr h
    have := g3 v h1' h2
    have := h3 u (by rw [hasI_nat]; exact g1) g2
    congr 1; omega
theorem nextS_out {r : List UInt8} (hr : plcs r) {n : Int} (h : ∀ u : Int, hasI r u = true → u < n) : nextS r n = none := by
  cases h' : nextS r n with
  | none => rfl
  | some u =>
    obtain ⟨g1, g2, _⟩ := nextS_some hr h'
    have := h u (by rw [hasI_nat]; exact g1); omega
theorem nextS_has {r : List UInt8} {n : Int} (h : hasI r n = true) : nextS r n = some n.toNat := by
  obtain ⟨_, h2, h3⟩ := blw_has h
  unfold nextS
  rw [if_neg (by omega)]; congr 1; omega
theorem prevS_some {r : List UInt8} (hr : plcs r) {n : Int} {v : Nat} (h : prevS r n = some v) : hasR r v = true ∧ (v : Int) ≤ n ∧ ∀ u : Int, hasI r u = true → u ≤ n → u ≤ (v : Int) := by
  unfold prevS at h
  split at h
  · rename_i hh
    obtain rfl := Option.some.inj h
    have hh' := hh
    simp only [hasI, Bool.and_eq_true, decide_eq_true_eq] at hh'
    exact ⟨hh'.2, by omega, fun u _ hn => by omega⟩
  · rename_i hh
    split at h
    · cases h
    · rename_i hne
      obtain rfl := Option.some.inj h
      refine ⟨has_nth hr _, by have := blw_lt (r := r) (n := n) (i := blw r n - 1) (by omega); omega, fun u hu hn => ?_⟩
      obtain ⟨i, hi, rfl⟩ := hasI_idx hu
      rcases Nat.lt_or_ge i (blw r n) with h' | h'
      · have := nth_mono' r (i := i) (j := blw r n - 1) (by omega) (by have := blw_le r n; omega); omega
      · have := blw_ge h' hi
        have he : ((nthR r i : Nat) : Int) = n := by omega
        exact absurd (he ▸ hu) hh
theorem prevS_none {r : List UInt8} {n : Int} (h : prevS r n = none) {u : Int} (hu : hasI r u = true) : n < u := by
  unfold prevS at h
  split at h
  · cases h
  · rename_i hh
    split at h
    · rename_i he
      obtain ⟨i, hi, rfl⟩ := hasI_idx hu
      have := blw_ge (r := r) (n := n) (i := i) (by omega) hi
      rcases Int.lt_or_eq_of_le this with h' | h'
      · exact h'
      · exact absurd (h' ▸ hu) hh
    · cases h
theorem prevS_of {r : List UInt8} (hr : plcs r) {n : Int} {v : Nat} (h1 : hasR r v = true) (h2 : (v : Int) ≤ n) (h3 : ∀ u : Int, hasI r u = true → u ≤ n → u ≤ (v : Int)) : prevS r n = some v := by
  have h1' : hasI r (v : Int) = true := by rw [hasI_nat]; exact h1
  cases h : prevS r n with
  | none => have := prevS_none h h1'; omega
  | some u =>
    obtain ⟨g1, g2, g3⟩ := prevS_some hr h
    have := g3 v h1' h2
    have := h3 u (by rw [hasI_nat]; exact g1) g2
    congr 1; omega
theorem prevS_out {r : List UInt8} (hr : plcs r) {n : Int} (h : ∀ u : Int, hasI r u = true → n < u) : prevS r n = none := by
  cases h' : prevS r n with
  | none => rfl
  | some u =>
    obtain ⟨g1, g2, _⟩ := prevS_some hr h'
    have := h u (by rw [hasI_nat]; exact g1); omega
theorem prevS_has {r : List UInt8} {n : Int} (h : hasI r n = true) : prevS r n = some n.toNat := by unfold prevS; rw [if_pos h]

/-! ### What two masks have in common -/
def com1 (x y : UInt8) : Option UInt8 := if x.toNat = 88 then some y else if y.toNat = 88 ∨ y = x then some x else none
def comL : List UInt8 → List UInt8 → Option (List UInt8)
  | x :: a, y :: b => match com1 x y, comL a b with
    | some c, some s => some (c :: s)
    | _, _ => none
  | _, _ => some []
theorem com1_symm (x y : UInt8) : com1 x y = com1 y x := by
  unfold com1
  by_cases hx : x.toNat = 88 <;> by_cases hy : y.toNat = 88 <;> by_cases hxy : x = y
  all_goals simp_all
  · exact (UInt8.toNat_inj.1 (hy.trans hx.symm))
  · intro h; exact hxy h.symm
theorem comL_symm (a b : List UInt8) : comL a b = comL b a := by
  induction a generalizing b with
  | nil => cases b <;> rfl
  | cons x a ih => cases b with
    | nil => rfl
    | cons y b => simp only [comL]; rw [com1_symm, ih]
theorem comL_snoc (a b : List UInt8) (x y : UInt8) (h : a.length = b.length) :
    comL (a ++ [x]) (b ++ [y]) = match comL a b, com1 x y with | some s, some c => some (s ++ [c]) | _, _ => none := by
  induction a generalizing b with
  | nil =>
    cases b with
    | nil => simp only [List.nil_append, comL]; cases com1 x y <;> rfl
    | cons => simp at h
  | cons z a ih => cases b with
    | nil => simp at h
    | cons t b =>
      simp only [List.cons_append, comL]
      rw [ih b (by simpa using h)]
      cases com1 z t <;> cases comL a b <;> cases com1 x y <;> rfl
theorem comL_rev (a b : List UInt8) (h : a.length = b.length) : comL a.reverse b.reverse = (comL a b).map List.reverse := by
  induction a generalizing b with
  | nil => cases b with
    | nil => rfl
    | cons => simp at h
  | cons x a ih => cases b with
    | nil => simp at h
    | cons y b =>
      simp only [List.reverse_cons]
      rw [comL_snoc _ _ _ _ (by simpa using h), ih b (by simpa using h)]
      simp only [comL]
      cases com1 x y <;> cases comL a b <;> simp
theorem comL_len {a b s : List UInt8} (h : comL a b = some s) (hl : a.length = b.length) : s.length = a.length := by
  induction a generalizing b s with
  | nil => simp [comL] at h; simp [h]
  | cons x a ih => cases b with
    | nil => simp at hl
    | cons y b =>
      simp only [comL] at h
      split at h
      · rename_i c t hc ht
        obtain rfl := Option.some.inj h
        simp [ih ht (by simpa using hl)]
      · cases h
theorem comL_plcs {a b s : List UInt8} (h : comL a b = some s) (ha : plcs a) (hb : plcs b) : plcs s := by
  induction a generalizing b s with
  | nil => cases b <;> simp [comL] at h <;> subst h <;> exact plcs_nil
  | cons x a ih => cases b with
    | nil => simp [comL] at h; subst h; exact plcs_nil
    | cons y b =>
      simp only [comL] at h
      split at h
      · rename_i c t hc ht
        obtain rfl := Option.some.inj h
        refine plcs.cons ?_ (ih ht ha.tail hb.tail)
        unfold com1 at hc
        split at hc
        · obtain rfl := Option.some.inj hc; exact hb.head
        · split at hc
          · obtain rfl := Option.some.inj hc; exact ha.head
          · cases hc
      · cases h
theorem comL_has {a b s : List UInt8} (h : comL a b = some s) (hl : a.length = b.length) (n : Nat) : hasR s n = (hasR a n && hasR b n) := by
  induction a generalizing b s n with
  | nil => cases b with
    | nil => simp [comL] at h; subst h; simp [hasR]
    | cons => simp at hl
  | cons x a ih => cases b with
    | nil => simp at hl
    | cons y b =>
      simp only [comL] at h
      split at h
      · rename_i c t hc ht
        obtain rfl := Option.some.inj h
        simp only [hasR]
        rw [ih ht (by simpa using hl)]
        have e : decide (c.toNat = 88 ∨ c.toNat = n % 10 + 48) = (decide (x.toNat = 88 ∨ x.toNat = n % 10 + 48) && decide (y.toNat = 88 ∨ y.toNat = n % 10 + 48)) := by
          unfold com1 at hc
          split at hc
          · rename_i hx; obtain rfl := Option.some.inj hc; simp [hx]
          · split at hc
            · rename_i hx hy
              obtain rfl := Option.some.inj hc
              rcases hy with hy | hy
              · simp [hy]
              · subst hy; simp
            · cases hc
        rw [e]
        simp only [Bool.and_assoc, Bool.and_left_comm]
      · cases h
theorem comL_none {a b : List UInt8} (h : comL a b = none) (ha : plcs a) (hb : plcs b) (n : Nat) : (hasR a n && hasR b n) = false := by
  induction a generalizing b n with
  | nil => cases b <;> simp [comL] at h
  | cons x a ih => cases b with
    | nil => simp [comL] at h
    | cons y b =>
      simp only [comL] at h
      simp only [hasR]
      rw [Bool.eq_false_iff]
      intro hh
      simp only [Bool.and_eq_true, decide_eq_true_eq] at hh
      obtain ⟨⟨h1, h2⟩, h3, h4⟩ := hh
      cases ht : comL a b with
      | none => have := ih ht ha.tail hb.tail (n / 10); simp [h2, h4] at this
      | some t =>
        cases hc : com1 x y with
        | some c => rw [hc, ht] at h; simp at h
        | none =>
          unfold com1 at hc
          split at hc
          · cases hc
          · split at hc
            · cases hc
            · rename_i hx hy
              exact hy (by rcases h3 with h3 | h3
                           · exact Or.inl h3
                           · exact Or.inr (UInt8.toNat_inj.1 (by omega)))
theorem comLI_has {a b s : List UInt8} (h : comL a b = some s) (hl : a.length = b.length) (n : Int) : hasI s n = (hasI a n && hasI b n) := by
  unfold hasI; rw [comL_has h hl]; cases decide (0 ≤ n) <;> simp
theorem comLI_none {a b : List UInt8} (h : comL a b = none) (ha : plcs a) (hb : plcs b) (n : Int) : (hasI a n && hasI b n) = false := by
  have := comL_none h ha hb n.toNat
  unfold hasI; cases decide (0 ≤ n) <;> simp_all

/-! ### The digits of a number, as many as the mask has places -/
def dgR : Nat → Nat → List UInt8
  | 0, _ => []
  | k + 1, n => UInt8.ofNat (48 + n % 10) :: dgR k (n / 10)
theorem dg_nat (n : Nat) : (UInt8.ofNat (48 + n % 10)).toNat = 48 + n % 10 := by rw [UInt8.toNat_ofNat', Nat.mod_eq_of_lt (by omega)]
theorem dgR_len (k n : Nat) : (dgR k n).length = k := by induction k generalizing n with
  | zero => rfl
  | succ k ih => simp [dgR, ih]
theorem dgR_plcs (k n : Nat) : plcs (dgR k n) := by induction k generalizing n with
  | zero => exact plcs_nil
  | succ k ih => exact plcs.cons (Or.inr (by rw [dg_nat]; omega)) (ih _)
theorem dgR_com (r : List UInt8) (n : Nat) (hn : n < 10 ^ r.length) : hasR r n = decide (comL r (dgR r.length n) = some (dgR r.length n)) := by
  induction r generalizing n with
  | nil => simp at hn; simp [hasR, hn, comL, dgR]
  | cons c r ih =>
    have h2 := ih (n / 10) (by simp only [List.length_cons, Nat.pow_succ] at hn; omega)
    simp only [hasR, List.length_cons, dgR, comL]
    rw [h2]
    have hd := dg_nat n
    generalize UInt8.ofNat (48 + n % 10) = d at *
    generalize dgR r.length (n / 10) = t at *
    have e : com1 c d = if c.toNat = 88 ∨ c.toNat = n % 10 + 48 then some d else none := by
      unfold com1
      by_cases h88 : c.toNat = 88
      · simp [h88]
      · by_cases hcd : c.toNat = n % 10 + 48
        · have : d = c := UInt8.toNat_inj.1 (by omega)
          simp [this, hcd]
        · have : ¬ (d.toNat = 88 ∨ d = c) := by
            rintro (h | h)
            · omega
            · exact hcd (by rw [← h, hd]; omega)
          simp [h88, hcd, this]
    rw [e]
    by_cases h : c.toNat = 88 ∨ c.toNat = n % 10 + 48
    · simp only [h, if_true, decide_true, Bool.true_and]
      cases comL r t <;> simp
    · simp [h]
theorem dgR_zero (k : Nat) : dgR k 0 = List.replicate k 48 := by induction k with
  | zero => rfl
  | succ k ih => simp only [dgR, List.replicate_succ]; rw [show 0 / 10 = 0 from rfl, ih]; rfl
theorem dec_len_pos (n : Nat) : 0 < (Lib.decDigits n).length := by rw [Lib.decDigits]; split <;> simp
theorem dec_pad (k n : Nat) (h : (Lib.decDigits n).length ≤ k) : List.replicate (k - (Lib.decDigits n).length) 48 ++ Lib.decDigits n = (dgR k n).reverse := by
  induction k generalizing n with
  | zero => have := dec_len_pos n; omega
  | succ k ih =>
    by_cases hn : n < 10
    · have hd : Lib.decDigits n = [UInt8.ofNat (48 + n % 10)] := by rw [Lib.decDigits, dif_pos hn, Nat.mod_eq_of_lt hn]
      rw [hd]
      simp only [dgR, List.reverse_cons, List.length_singleton, Nat.add_sub_cancel]
      rw [show n / 10 = 0 by omega, dgR_zero, List.reverse_replicate]
    · have hd : Lib.decDigits n = Lib.decDigits (n / 10) ++ [UInt8.ofNat (48 + n % 10)] := by rw [Lib.decDigits, dif_neg hn]
      rw [hd] at h ⊢
      simp only [List.length_append, List.length_singleton] at h ⊢
      simp only [dgR, List.reverse_cons]
      rw [← ih (n / 10) (by omega), ← List.append_assoc]
      congr 2
      congr 1
      omega
theorem dec_lt (k n : Nat) (h : (Lib.decDigits n).length ≤ k) : n < 10 ^ k := by
  induction k generalizing n with
  | zero => have := dec_len_pos n; omega
  | succ k ih =>
    by_cases hn : n < 10
    · have : 1 ≤ 10 ^ k := Nat.one_le_pow _ _ (by omega)
      rw [Nat.pow_succ]; omega
    · rw [Lib.decDigits, dif_neg hn] at h
      simp only [List.length_append, List.length_singleton] at h
      have := ih (n / 10) (by omega)
      rw [Nat.pow_succ]; omega
end Go.Proofs.Ythgnoeigjngniaa
