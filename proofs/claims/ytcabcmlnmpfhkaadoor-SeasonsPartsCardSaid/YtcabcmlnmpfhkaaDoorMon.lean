/- Months of the calendar as whole numbers: how long one is, on which day it begins, the month of a day, the month so many months on. No program is in it. -/
import Derived.Test.YtcabcmlnmpfhkaaDoorYear
namespace Go.Proofs.YtcabcmlnmpfhkaaDoor

def mo (m : Int) : Bool := decide (1 ≤ m ∧ m ≤ 12)
def mlen (y m : Int) : Int := if m = 4 ∨ m = 6 ∨ m = 9 ∨ m = 11 then 30 else if m = 2 then lenI y - 337 else 31
/-- The first day of the month behind the first n of a year. -/
def mst (y : Int) : Nat → Int
  | 0 => stI y
  | n + 1 => mst y n + mlen y ((n : Int) + 1)
theorem mo_iff (m : Int) : mo m = true ↔ 1 ≤ m ∧ m ≤ 12 := by simp [mo]
theorem mlen_bd (y m : Int) : 28 ≤ mlen y m ∧ mlen y m ≤ 31 := by
  have := lenI_bd y
  unfold mlen; split
  · omega
  · split <;> omega
theorem mst_12 (y : Int) : mst y 12 = stI (y + 1) := by
  rw [stI_succ]
  simp only [mst, mlen]
  simp
  omega
theorem mst_lo (y : Int) (n : Nat) : stI y + 28 * (n : Int) ≤ mst y n := by
  induction n with
  | zero => simp [mst]
  | succ n ih => have := mlen_bd y ((n : Int) + 1); simp only [mst]; omega
theorem mst_hi (y : Int) (n : Nat) : mst y n ≤ stI y + 31 * (n : Int) := by
  induction n with
  | zero => simp [mst]
  | succ n ih => have := mlen_bd y ((n : Int) + 1); simp only [mst]; omega
theorem mst_mono (y : Int) {a b : Nat} (h : a ≤ b) : mst y a ≤ mst y b := by
  induction b with
  | zero => have : a = 0 := by omega
            rw [this]; exact Int.le_refl _
  | succ b ih =>
    rcases Nat.lt_or_eq_of_le h with h' | rfl
    · have := ih (by omega); have := mlen_bd y ((b : Int) + 1); simp only [mst]; omega
    · exact Int.le_refl _

/-- The month of a day of the year y, sought from k on. -/
def msr (y d : Int) : Nat → Nat → Nat
  | 0, k => k
  | n + 1, k => if mst y k ≤ d then msr y d n (k + 1) else k
def moOf (d : Int) : Nat := msr (yrOf d) d 11 1
theorem msr_spec (y d : Int) : ∀ (n k : Nat), 1 ≤ k → mst y (k - 1) ≤ d → d < mst y (k + n) → k ≤ msr y d n k ∧ msr y d n k ≤ k + n ∧ mst y (msr y d n k - 1) ≤ d ∧ d < mst y (msr y d n k) := by
  intro n
  induction n with
  | zero => intro k hk h1 h2; exact ⟨Nat.le_refl _, Nat.le_refl _, h1, h2⟩
  | succ n ih =>
    intro k hk h1 h2
    simp only [msr]
    split
    · rename_i hle
      have := ih (k + 1) (by omega) (by rw [Nat.add_sub_cancel]; exact hle) (by rw [show k + 1 + n = k + (n + 1) by omega]; exact h2)
      exact ⟨by omega, by omega, this.2.2.1, this.2.2.2⟩
    · exact ⟨Nat.le_refl _, by omega, h1, by omega⟩
theorem moOf_spec (d : Int) : 1 ≤ moOf d ∧ moOf d ≤ 12 ∧ mst (yrOf d) (moOf d - 1) ≤ d ∧ d < mst (yrOf d) (moOf d) := by
  obtain ⟨h1, h2⟩ := yrOf_spec d
  have := msr_spec (yrOf d) d 11 1 (by omega) (by simpa [mst] using h1) (by rw [show 1 + 11 = 12 by omega, mst_12]; exact h2)
  unfold moOf
  exact ⟨this.1, by omega, this.2.2.1, this.2.2.2⟩
theorem mo_eq {d y : Int} {n : Nat} (h1 : 1 ≤ n) (h2 : n ≤ 12) (h3 : mst y (n - 1) ≤ d) (h4 : d < mst y n) : yrOf d = y ∧ moOf d = n := by
  have hy : yrOf d = y := by
    refine yrOf_eq ?_ ?_
    · have := mst_mono y (Nat.zero_le (n - 1)); simp only [mst] at this; omega
    · have := mst_mono y h2; rw [mst_12] at this; omega
  obtain ⟨g1, g2, g3, g4⟩ := moOf_spec d
  rw [hy] at g3 g4
  refine ⟨hy, ?_⟩
  rcases Nat.lt_trichotomy (moOf d) n with h | h | h
  · have := mst_mono y (show moOf d ≤ n - 1 by omega); omega
  · exact h
  · have := mst_mono y (show n ≤ moOf d - 1 by omega); omega

/-- The index of the month k months on; its year; its number. -/
def ixI (y m k : Int) : Int := 12 * y + (m - 1) + k
def adY (y m k : Int) : Int := ixI y m k / 12
def adM (y m k : Int) : Int := ixI y m k % 12 + 1
theorem ad_spec (y m k : Int) : 12 * adY y m k + (adM y m k - 1) = ixI y m k ∧ 1 ≤ adM y m k ∧ adM y m k ≤ 12 := by
  unfold adY adM; omega
theorem ad_eq {y m k z n : Int} (h : 12 * z + (n - 1) = ixI y m k) (h1 : 1 ≤ n) (h2 : n ≤ 12) : adY y m k = z ∧ adM y m k = n := by
  unfold adY adM; omega
/-- The error of Check, and what comes of it. -/
def mE (y m : Int) : Int := if yr y = true then (if mo m = true then 0 else 7) else 6
def mV (y m v : Int) : Int := if yr y = true ∧ mo m = true then v else 0
theorem mE_zero {y m : Int} : mE y m = 0 ↔ yr y = true ∧ mo m = true := by
  unfold mE
  cases yr y <;> cases mo m <;> simp
theorem mE_in {y m : Int} (h1 : yr y = true) (h2 : mo m = true) : mE y m = 0 := mE_zero.2 ⟨h1, h2⟩
theorem mV_in {y m : Int} (h1 : yr y = true) (h2 : mo m = true) (v : Int) : mV y m v = v := if_pos ⟨h1, h2⟩
theorem mV_out {y m : Int} (h : ¬ mE y m = 0) (v : Int) : mV y m v = 0 := if_neg fun hh => h (mE_zero.2 hh)
theorem mE_bd (y m : Int) : 0 ≤ mE y m ∧ mE y m ≤ 7 := by unfold mE; split; split <;> omega; omega
end Go.Proofs.YtcabcmlnmpfhkaaDoor
