/- Years of the calendar as whole numbers: how long one is, on which day it begins, the year of a day, how many leap years there are. No program is in it. -/
namespace Go.Proofs.YtmbaohjekeiphaaGreatDoor

def yr (y : Int) : Bool := decide (-10000000000000000 ≤ y ∧ y ≤ 10000000000000000)
def lpB (y : Int) : Bool := decide (y % 400 = 0 ∨ (y % 4 = 0 ∧ ¬ y % 100 = 0))
def lenI (y : Int) : Int := if y % 400 = 0 ∨ (y % 4 = 0 ∧ ¬ y % 100 = 0) then 366 else 365
/-- How many leap years there are from 1 to y (below 0: ahead of 1, with the other sign). -/
def lps (y : Int) : Int := y / 4 - y / 100 + y / 400
def stI (y : Int) : Int := 365 * y + lps (y - 1) + 1
theorem yr_iff (y : Int) : yr y = true ↔ -10000000000000000 ≤ y ∧ y ≤ 10000000000000000 := by simp [yr]
theorem yr_not (y : Int) : yr y = false ↔ ¬ (-10000000000000000 ≤ y ∧ y ≤ 10000000000000000) := by simp only [yr, decide_eq_false_iff_not]
theorem lenI_lp (y : Int) : lenI y = if lpB y = true then 366 else 365 := by
  unfold lenI lpB
  by_cases h : y % 400 = 0 ∨ (y % 4 = 0 ∧ ¬ y % 100 = 0) <;> simp [h]
theorem lenI_bd (y : Int) : 365 ≤ lenI y ∧ lenI y ≤ 366 := by unfold lenI; split <;> omega
theorem lps_succ (y : Int) : lps y = lps (y - 1) + (lenI y - 365) := by
  unfold lps lenI
  split <;> omega
theorem stI_succ (y : Int) : stI (y + 1) = stI y + lenI y := by
  have := lps_succ y
  unfold stI
  rw [show y + 1 - 1 = y by omega]; omega
theorem lps_400 (y n : Int) : lps (y + 400 * n) = lps y + 97 * n := by unfold lps; omega
theorem stI_400 (y n : Int) : stI (y + 400 * n) = stI y + 146097 * n := by
  unfold stI
  rw [show y + 400 * n - 1 = (y - 1) + 400 * n by omega, lps_400]; omega
theorem lenI_400 (y n : Int) : lenI (y + 400 * n) = lenI y := by
  unfold lenI
  rw [show (y + 400 * n) % 400 = y % 400 by omega, show (y + 400 * n) % 4 = y % 4 by omega, show (y + 400 * n) % 100 = y % 100 by omega]
theorem stI_zero : stI 0 = 0 := by decide
theorem stI_lt {a b : Int} (h : a ≤ b) : stI a + 365 * (b - a) ≤ stI b := by
  obtain ⟨n, rfl⟩ : ∃ n : Nat, b = a + n := ⟨(b - a).toNat, by omega⟩
  clear h
  induction n with
  | zero => simp
  | succ n ih =>
    have h1 := stI_succ (a + n)
    have h2 := lenI_bd (a + n)
    rw [show a + ((n + 1 : Nat) : Int) = a + (n : Int) + 1 by omega]
    omega
theorem stI_le {a b : Int} (h : a ≤ b) : stI a ≤ stI b := by have := stI_lt h; omega
theorem stI_bd (y : Int) (h : -10000000000000000 ≤ y ∧ y ≤ 10000000000000001) : -3652425000000000000 ≤ stI y ∧ stI y ≤ 3652425000000000366 := by
  have h1 := stI_le h.1
  have h2 := stI_le h.2
  have e1 : stI (-10000000000000000) = -3652425000000000000 := by decide
  have e2 : stI 10000000000000001 = 3652425000000000366 := by decide
  omega

/-- The year of a day that is left of 400 years, beginning at y. -/
def srch : Nat → Int → Int → Int
  | 0, _, y => y
  | n + 1, left, y => if lenI y ≤ left then srch n (left - lenI y) (y + 1) else y
/-- The year of a day. -/
def yrOf (d : Int) : Int := 400 * (d / 146097) + srch 400 (d % 146097) 0
theorem srch_spec (n : Nat) : ∀ (left y : Int), 0 ≤ left → left + stI y < stI (y + n) → y ≤ srch n left y ∧ srch n left y < y + n ∧ stI (srch n left y) ≤ left + stI y ∧ left + stI y < stI (srch n left y + 1) := by
  induction n with
  | zero => intro left y h0 h; simp at h; omega
  | succ n ih =>
    intro left y h0 h
    have hs := stI_succ y
    simp only [srch]
    split
    · rename_i hle
      have h1 := ih (left - lenI y) (y + 1) (by omega) (by rw [hs, show y + 1 + (n : Int) = y + ((n + 1 : Nat) : Int) by omega]; omega)
      rw [hs] at h1
      refine ⟨by omega, by omega, by omega, by omega⟩
    · exact ⟨Int.le_refl _, by omega, by omega, by omega⟩
theorem yrOf_spec (d : Int) : stI (yrOf d) ≤ d ∧ d < stI (yrOf d + 1) := by
  have h0 : 0 ≤ d % 146097 := Int.emod_nonneg _ (by omega)
  have h1 : d % 146097 < 146097 := Int.emod_lt_of_pos _ (by omega)
  have e400 : stI (0 + ((400 : Nat) : Int)) = 146097 := by decide
  have hs := srch_spec 400 (d % 146097) 0 h0 (by rw [stI_zero, e400]; omega)
  rw [stI_zero] at hs
  unfold yrOf
  generalize srch 400 (d % 146097) 0 = y at *
  rw [show 400 * (d / 146097) + y + 1 = (y + 1) + 400 * (d / 146097) by omega, show 400 * (d / 146097) + y = y + 400 * (d / 146097) by omega, stI_400, stI_400]
  omega
theorem yrOf_eq {d y : Int} (h1 : stI y ≤ d) (h2 : d < stI (y + 1)) : yrOf d = y := by
  obtain ⟨h3, h4⟩ := yrOf_spec d
  rcases Int.lt_trichotomy (yrOf d) y with h | h | h
  · have := stI_le (show yrOf d + 1 ≤ y by omega); omega
  · exact h
  · have := stI_le (show y + 1 ≤ yrOf d by omega); omega
theorem yrOf_bd (d : Int) (h : -9223372036854775808 ≤ d ∧ d ≤ 9223372036854775807) : -25252800000000000 ≤ yrOf d ∧ yrOf d ≤ 25252800000000000 := by
  obtain ⟨h3, h4⟩ := yrOf_spec d
  constructor
  · by_cases hl : yrOf d < -25252800000000000
    · have := stI_le (show yrOf d + 1 ≤ -25252800000000000 by omega)
      have e : stI (-25252800000000000) = -9223395804000000000 := by decide
      omega
    · omega
  · by_cases hl : 25252800000000000 < yrOf d
    · have := stI_le (show 25252800000000000 ≤ yrOf d by omega)
      have e : stI 25252800000000000 = 9223395804000000000 := by decide
      omega
    · omega
/-- How many leap years there are from a to b. -/
def lpsI (a b : Int) : Int := if b < a then 0 else lps b - lps (a - 1)
theorem lpsI_split {a b c : Int} (h1 : a ≤ b) (h2 : b < c) : lpsI a b + lpsI (b + 1) c = lpsI a c := by
  unfold lpsI
  rw [if_neg (by omega), if_neg (by omega), if_neg (by omega), show b + 1 - 1 = b by omega]; omega
end Go.Proofs.YtmbaohjekeiphaaGreatDoor
