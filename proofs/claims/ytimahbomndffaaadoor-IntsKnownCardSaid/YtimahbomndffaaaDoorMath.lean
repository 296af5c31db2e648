/- Plain facts on whole numbers: quotients that are rounded toward zero and down, products by sizes. No program. -/
namespace Go.Proofs.YtimahbomndffaaaDoor

theorem tmod_nonpos {a : Int} (b : Int) (h : a ≤ 0) : a.tmod b ≤ 0 := by
  have h1 := Int.tmod_nonneg (a := -a) b (by omega)
  rw [Int.neg_tmod] at h1
  omega
theorem tmod_abs {a b : Int} (hb : b ≠ 0) : (a.tmod b).natAbs < b.natAbs := by
  rw [Int.natAbs_tmod]; exact Nat.mod_lt _ (by omega)
theorem ndvd {a b : Int} (h : a.tmod b ≠ 0) : ¬ b ∣ a := fun hd => h (Int.tmod_eq_zero_of_dvd hd)
theorem fdiv_up {a b : Int} (hb : b ≠ 0) (h : a.tmod b ≠ 0 ∧ ¬ (a.tmod b < 0 ↔ b < 0)) : a.fdiv b = a.tdiv b - 1 := by
  rw [Int.fdiv_eq_tdiv, if_neg (ndvd h.1)]
  by_cases ha : 0 ≤ a
  · have := Int.tmod_nonneg b ha
    rw [if_pos ha, if_neg (by omega)]
  · have := tmod_nonpos (a := a) b (by omega)
    rw [if_neg ha, if_pos (by omega), Int.sign_eq_one_of_pos (by omega)]
theorem fdiv_eq {a b : Int} (h : ¬ (a.tmod b ≠ 0 ∧ ¬ (a.tmod b < 0 ↔ b < 0))) : a.fdiv b = a.tdiv b := by
  by_cases h0 : a.tmod b = 0
  · rw [Int.fdiv_eq_tdiv, if_pos (Int.dvd_of_tmod_eq_zero h0)]; omega
  · rw [Int.fdiv_eq_tdiv, if_neg (ndvd h0)]
    by_cases ha : 0 ≤ a
    · have := Int.tmod_nonneg b ha
      rw [if_pos ha, if_pos (by omega)]; omega
    · have := tmod_nonpos (a := a) b (by omega)
      rw [if_neg ha, if_neg (by omega), Int.sign_eq_neg_one_of_neg (by omega)]; omega
theorem fmod_up {a b : Int} (hb : b ≠ 0) (h : a.tmod b ≠ 0 ∧ ¬ (a.tmod b < 0 ↔ b < 0)) : a.fmod b = a.tmod b + b := by
  have h1 := Int.mul_fdiv_add_fmod a b
  have h2 := Int.tdiv_mul_add_tmod a b
  rw [fdiv_up hb h, Int.mul_sub, Int.mul_one, Int.mul_comm] at h1
  omega
theorem fmod_eq {a b : Int} (h : ¬ (a.tmod b ≠ 0 ∧ ¬ (a.tmod b < 0 ↔ b < 0))) : a.fmod b = a.tmod b := by
  have h1 := Int.mul_fdiv_add_fmod a b
  have h2 := Int.tdiv_mul_add_tmod a b
  rw [fdiv_eq h, Int.mul_comm] at h1
  omega
theorem tdiv_abs (a b : Int) : (a.tdiv b).natAbs ≤ a.natAbs := by rw [Int.natAbs_tdiv]; exact Nat.div_le_self _ _
theorem tdiv_bd {a b : Int} (ha : -9223372036854775808 ≤ a) (ha' : a ≤ 9223372036854775807) (h : ¬ (a = -9223372036854775808 ∧ b = -1)) : -9223372036854775808 ≤ a.tdiv b ∧ a.tdiv b ≤ 9223372036854775807 := by
  have h1 := tdiv_abs a b
  refine ⟨by omega, ?_⟩
  by_cases hm : a = -9223372036854775808
  · by_cases h0 : b = 0
    · subst h0; rw [Int.tdiv_zero]; omega
    by_cases hp : b = 1
    · subst hp; rw [Int.tdiv_one]; omega
    · have h2 : (a.tdiv b).natAbs ≤ a.natAbs / 2 := by
        rw [Int.natAbs_tdiv]
        exact Nat.div_le_div_left (by omega) (by omega)
      omega
  · omega
theorem fdiv_lo {a b : Int} (hb : b ≠ 0) (ha : -9223372036854775808 ≤ a) (ha' : a ≤ 9223372036854775807) (h : a.tmod b ≠ 0 ∧ ¬ (a.tmod b < 0 ↔ b < 0)) : -9223372036854775808 ≤ a.tdiv b - 1 := by
  have h3 := tmod_abs (a := a) hb
  have h4 : (a.tdiv b).natAbs ≤ a.natAbs / 2 := by
    rw [Int.natAbs_tdiv]
    exact Nat.div_le_div_left (by omega) (by omega)
  omega
theorem fmod_bd {a b : Int} (hb : b ≠ 0) : (a.fmod b).natAbs < b.natAbs := by
  by_cases h : a.tmod b ≠ 0 ∧ ¬ (a.tmod b < 0 ↔ b < 0)
  · have := tmod_abs (a := a) hb
    rw [fmod_up hb h]; omega
  · rw [fmod_eq h]; exact tmod_abs hb
theorem fmod_sign {a b : Int} (hb : b ≠ 0) (h0 : a.fmod b ≠ 0) : a.fmod b < 0 ↔ b < 0 := by
  by_cases h : a.tmod b ≠ 0 ∧ ¬ (a.tmod b < 0 ↔ b < 0)
  · have := tmod_abs (a := a) hb
    rw [fmod_up hb h] at *; omega
  · rw [fmod_eq h] at *; omega
theorem fdiv_mono {a c b : Int} (hb : 0 < b) (h : a ≤ c) : a.fdiv b ≤ c.fdiv b := by
  rw [Int.fdiv_eq_ediv_of_nonneg _ (by omega), Int.fdiv_eq_ediv_of_nonneg _ (by omega)]
  exact Int.ediv_le_ediv hb h
/-- A product, by the sizes of its factors. -/
theorem mul_size (a b : Int) : a * b = if (decide (a < 0) != decide (b < 0)) = true then -((a.natAbs * b.natAbs : Nat) : Int) else ((a.natAbs * b.natAbs : Nat) : Int) := by
  rw [← Int.natAbs_mul]
  by_cases ha : a < 0 <;> by_cases hb : b < 0 <;> simp only [ha, hb, decide_true, decide_false, bne_self_eq_false, Bool.false_eq_true, if_false, Bool.true_bne, Bool.false_bne, Bool.not_false, if_true]
  · have := Int.mul_pos_of_neg_of_neg ha hb; omega
  · have := Int.mul_nonpos_of_nonpos_of_nonneg (Int.le_of_lt ha) (Int.not_lt.1 hb); omega
  · have := Int.mul_nonpos_of_nonneg_of_nonpos (Int.not_lt.1 ha) (Int.le_of_lt hb); omega
  · have := Int.mul_nonneg (Int.not_lt.1 ha) (Int.not_lt.1 hb); omega

theorem gcd_over {a b : Int} (h : (a = -9223372036854775808 ∨ a = 0) ∧ (b = -9223372036854775808 ∨ b = 0) ∧ (a ≠ 0 ∨ b ≠ 0)) : (Int.gcd a b : Int) = 9223372036854775808 := by
  obtain ⟨rfl | rfl, rfl | rfl, h3⟩ := h
  · decide
  · decide
  · decide
  · omega
theorem gcd_in {a b : Int} (ha : -9223372036854775808 ≤ a) (ha' : a ≤ 9223372036854775807) (hb : -9223372036854775808 ≤ b) (hb' : b ≤ 9223372036854775807)
    (h : ¬ ((a = -9223372036854775808 ∨ a = 0) ∧ (b = -9223372036854775808 ∨ b = 0) ∧ (a ≠ 0 ∨ b ≠ 0))) : (Int.gcd a b : Int) ≤ 9223372036854775807 := by
  by_cases h1 : a = -9223372036854775808 ∨ a = 0
  · by_cases hb0 : b = 0
    · have : a = 0 := by omega
      subst this hb0; decide
    · have := Nat.le_of_dvd (by omega) (Nat.gcd_dvd_right a.natAbs b.natAbs)
      have he : Int.gcd a b = Nat.gcd a.natAbs b.natAbs := rfl
      omega
  · have := Nat.le_of_dvd (by omega) (Nat.gcd_dvd_left a.natAbs b.natAbs)
    have he : Int.gcd a b = Nat.gcd a.natAbs b.natAbs := rfl
    omega
theorem gcd_lo {a b : Int} (h : a ≠ 0 ∨ b ≠ 0) : 1 ≤ (Int.gcd a b : Int) := by
  have he : Int.gcd a b = Nat.gcd a.natAbs b.natAbs := rfl
  have : 0 < Nat.gcd a.natAbs b.natAbs := by
    rw [Nat.pos_iff_ne_zero]; intro h0; rw [Nat.gcd_eq_zero_iff] at h0; omega
  omega
theorem gcd_one {a b : Int} (h : a ≠ 0 ∨ b ≠ 0) : Int.gcd (a.tdiv (Int.gcd a b)) (b.tdiv (Int.gcd a b)) = 1 := by
  have h1 := gcd_lo h
  show Nat.gcd (a.tdiv _).natAbs (b.tdiv _).natAbs = 1
  rw [Int.natAbs_tdiv, Int.natAbs_tdiv, Int.natAbs_natCast]
  have he : Int.gcd a b = Nat.gcd a.natAbs b.natAbs := rfl
  show Nat.gcd (a.natAbs / Nat.gcd a.natAbs b.natAbs) (b.natAbs / Nat.gcd a.natAbs b.natAbs) = 1
  rw [Nat.gcd_div (Nat.gcd_dvd_left _ _) (Nat.gcd_dvd_right _ _)]
  exact Nat.div_self (by omega)
theorem gcd_tmod {a b : Int} : a.tmod (Int.gcd a b) = 0 ∧ b.tmod (Int.gcd a b) = 0 :=
  ⟨Int.tmod_eq_zero_of_dvd (Int.gcd_dvd_left _ _), Int.tmod_eq_zero_of_dvd (Int.gcd_dvd_right _ _)⟩
end Go.Proofs.YtimahbomndffaaaDoor
