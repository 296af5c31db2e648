/- Runs told by their days, one by one. No program is in it. -/
import Derived.Test.YtmbaohjekeiphaaDoorRuns1
namespace Go.Proofs.YtmbaohjekeiphaaDoor

/-- Whether one of the first k days from -60 on has a property. -/
def anyN (p : Int → Bool) : Nat → Bool
  | 0 => false
  | k + 1 => anyN p k || p (-60 + k)
theorem anyN_iff (p : Int → Bool) : ∀ k : Nat, anyN p k = true ↔ ∃ n : Int, -60 ≤ n ∧ n < -60 + k ∧ p n = true
  | 0 => by simp only [anyN]; constructor
            · intro h; cases h
            · rintro ⟨n, h1, h2, _⟩; omega
  | k + 1 => by
    simp only [anyN, Bool.or_eq_true, anyN_iff p k]
    constructor
    · rintro (⟨n, h1, h2, h3⟩ | h)
      · exact ⟨n, h1, by omega, h3⟩
      · exact ⟨-60 + k, by omega, by omega, h⟩
    · rintro ⟨n, h1, h2, h3⟩
      by_cases h : n = -60 + k
      · subst h; exact .inr h3
      · exact .inl ⟨n, h1, by omega, h3⟩
/-- A right run whose days lie, but for those without an end, from -39 to 54. -/
structure Small (r : Ru) : Prop where
  lo : (r.i = 0 ∧ -39 ≤ r.d ∧ r.d ≤ 54) ∨ (r.i = -1 ∧ r.d = 0)
  hi : (r.j = 0 ∧ -39 ≤ r.e ∧ r.e ≤ 54) ∨ (r.j = 1 ∧ r.e = 0)
  ord : r.i = 0 → r.j = 0 → r.d ≤ r.e
theorem Small.right {r : Ru} (h : Small r) : ruE r = 0 := right_ru (by have := h.lo; omega) (by have := h.hi; omega) h.ord
def bothP (a b : Ru) (n : Int) : Bool := ruH a n && ruH b n
def outP (a b : Ru) (n : Int) : Bool := ruH a n && !ruH b n
def nearP (a b : Ru) (n : Int) : Bool := ruH a n && (ruH b (n - 1) || ruH b (n + 1))
theorem both_all {a b : Ru} (ha : Small a) (hb : Small b) : anyN (bothP a b) 121 = ruOv a b := by
  obtain ⟨a1, a2, a3⟩ := ha
  obtain ⟨b1, b2, b3⟩ := hb
  rw [Bool.eq_iff_iff, anyN_iff, ruOv_iff, ruBeg_iff, ruBeg_iff]
  unfold bothP
  constructor
  · rintro ⟨n, h1, h2, h3⟩
    rw [Bool.and_eq_true, ruH_iff, ruH_iff] at h3
    omega
  · intro h
    -- the greater one of two beginnings, or the last day that is looked at ahead of both ends
    by_cases c1 : a.i = -1
    · by_cases c2 : b.i = -1
      · refine ⟨-60, by omega, by omega, ?_⟩
        rw [Bool.and_eq_true, ruH_iff, ruH_iff]; omega
      · refine ⟨b.d, by omega, by omega, ?_⟩
        rw [Bool.and_eq_true, ruH_iff, ruH_iff]; omega
    · by_cases c2 : b.i = -1
      · refine ⟨a.d, by omega, by omega, ?_⟩
        rw [Bool.and_eq_true, ruH_iff, ruH_iff]; omega
      · by_cases c3 : a.d ≤ b.d
        · refine ⟨b.d, by omega, by omega, ?_⟩
          rw [Bool.and_eq_true, ruH_iff, ruH_iff]; omega
        · refine ⟨a.d, by omega, by omega, ?_⟩
          rw [Bool.and_eq_true, ruH_iff, ruH_iff]; omega
/-- The forms of a small run. -/
inductive Form : Ru → Prop
  | days (d e : Int) (h1 : -39 ≤ d) (h2 : d ≤ e) (h3 : e ≤ 54) : Form ⟨0, d, 0, e⟩
  | up (d : Int) (h1 : -39 ≤ d) (h2 : d ≤ 54) : Form ⟨0, d, 1, 0⟩
  | down (e : Int) (h1 : -39 ≤ e) (h2 : e ≤ 54) : Form ⟨-1, 0, 0, e⟩
  | all : Form ⟨-1, 0, 1, 0⟩
theorem Small.form {r : Ru} (h : Small r) : Form r := by
  obtain ⟨i, d, j, e⟩ := r
  obtain ⟨h1, h2, h3⟩ := h
  dsimp only at h1 h2 h3
  rcases h1 with ⟨rfl, h1, h1'⟩ | ⟨rfl, rfl⟩ <;> rcases h2 with ⟨rfl, h2, h2'⟩ | ⟨rfl, rfl⟩
  · exact .days d e h1 (h3 rfl rfl) h2'
  · exact .up d h1 h1'
  · exact .down e h2 h2'
  · exact .all
theorem near_from {a b : Ru} (ha : Small a) (hb : Small b) (n : Int) (h : nearP a b n = true) : ruTo a b = true := by
  unfold nearP at h
  rw [Bool.and_eq_true, Bool.or_eq_true, ruH_iff, ruH_iff, ruH_iff] at h
  rw [ruTo_iff, ruOv_iff, ruBeg_iff, ruBeg_iff, ruAd_iff, ruAd_iff]
  cases ha.form <;> cases hb.form <;> simp at h ⊢ <;> omega
theorem near_to {a b : Ru} (ha : Small a) (hb : Small b) (h : ruAd a b = true ∨ ruAd b a = true) : ∃ n : Int, -60 ≤ n ∧ n < -60 + (121 : Nat) ∧ nearP a b n = true := by
  rw [ruAd_iff, ruAd_iff] at h
  have a1 := ha.lo
  have a2 := ha.hi
  have a3 := ha.ord
  have b1 := hb.lo
  have b2 := hb.hi
  have b3 := hb.ord
  rcases h with ⟨h1, h2, h3, h4⟩ | ⟨h1, h2, h3, h4⟩
  · refine ⟨a.e, by omega, by omega, ?_⟩
    unfold nearP
    rw [Bool.and_eq_true, Bool.or_eq_true, ruH_iff, ruH_iff, ruH_iff]
    exact ⟨⟨by omega, by omega⟩, .inr ⟨by omega, by omega⟩⟩
  · refine ⟨a.d, by omega, by omega, ?_⟩
    unfold nearP
    rw [Bool.and_eq_true, Bool.or_eq_true, ruH_iff, ruH_iff, ruH_iff]
    exact ⟨⟨by omega, by omega⟩, .inl ⟨by omega, by omega⟩⟩
theorem near_all {a b : Ru} (ha : Small a) (hb : Small b) : (anyN (bothP a b) 121 || anyN (nearP a b) 121) = ruTo a b := by
  rw [both_all ha hb]
  cases ho : ruOv a b
  · rw [Bool.false_or, Bool.eq_iff_iff, anyN_iff]
    constructor
    · rintro ⟨n, _, _, h3⟩
      exact near_from ha hb n h3
    · intro h
      rw [ruTo_iff, ho] at h
      rcases h with h | h
      · cases h
      · exact near_to ha hb h
  · rw [Bool.true_or]
    unfold ruTo
    rw [ho]; rfl
theorem ruW_iff (a b : Ru) : ruW a b = true ↔ ruOv a b = true ∧ (ruJ a b).i = b.i ∧ (ruJ a b).d = b.d ∧ (ruJ a b).j = b.j ∧ (ruJ a b).e = b.e := by
  unfold ruW ruEq
  simp only [Bool.and_eq_true, beq_iff_eq, and_assoc]
/-- Within, by the ends. -/
theorem within_iff {a b : Ru} (ha : Small a) (hb : Small b) : ruW a b = true ↔ (b.i = -1 ∨ (¬ a.i = -1 ∧ b.d ≤ a.d)) ∧ (b.j = 1 ∨ (¬ a.j = 1 ∧ a.e ≤ b.e)) := by
  rw [ruW_iff, ruOv_iff, ruBeg_iff, ruBeg_iff]
  unfold ruJ
  simp only [enC_lt, enC_gt]
  cases ha.form <;> cases hb.form <;> simp
  all_goals first | done | (split <;> split <;> omega) | (split <;> omega) | omega
theorem out_iff {a b : Ru} (ha : Small a) (hb : Small b) : (∃ n : Int, -60 ≤ n ∧ n < -60 + (121 : Nat) ∧ outP a b n = true) ↔ ¬ ((b.i = -1 ∨ (¬ a.i = -1 ∧ b.d ≤ a.d)) ∧ (b.j = 1 ∨ (¬ a.j = 1 ∧ a.e ≤ b.e))) := by
  have e : ∀ n, outP a b n = true ↔ ((a.i = -1 ∨ a.d ≤ n) ∧ (a.j = 1 ∨ n ≤ a.e)) ∧ ¬ ((b.i = -1 ∨ b.d ≤ n) ∧ (b.j = 1 ∨ n ≤ b.e)) := fun n => by
    unfold outP
    rw [Bool.and_eq_true, Bool.not_eq_true', Bool.eq_false_iff, Ne, ruH_iff, ruH_iff]
  have a1 := ha.lo
  have a2 := ha.hi
  have a3 := ha.ord
  have b1 := hb.lo
  have b2 := hb.hi
  have b3 := hb.ord
  constructor
  · rintro ⟨n, h1, h2, h3⟩
    rw [e] at h3
    omega
  · intro h
    by_cases c1 : b.i = -1 ∨ (¬ a.i = -1 ∧ b.d ≤ a.d)
    · have c2 : ¬ (b.j = 1 ∨ (¬ a.j = 1 ∧ a.e ≤ b.e)) := fun q => h ⟨c1, q⟩
      by_cases c3 : a.j = 1
      · exact ⟨60, by omega, by omega, (e _).2 (by omega)⟩
      · exact ⟨a.e, by omega, by omega, (e _).2 (by omega)⟩
    · by_cases c3 : a.i = -1
      · exact ⟨-60, by omega, by omega, (e _).2 (by omega)⟩
      · exact ⟨a.d, by omega, by omega, (e _).2 (by omega)⟩
theorem out_all {a b : Ru} (ha : Small a) (hb : Small b) : (!anyN (outP a b) 121) = ruW a b := by
  rw [Bool.eq_iff_iff, Bool.not_eq_true', Bool.eq_false_iff, Ne, anyN_iff, out_iff ha hb, within_iff ha hb]
  exact ⟨fun h => Classical.not_not.1 h, fun h q => q h⟩
end Go.Proofs.YtmbaohjekeiphaaDoor
