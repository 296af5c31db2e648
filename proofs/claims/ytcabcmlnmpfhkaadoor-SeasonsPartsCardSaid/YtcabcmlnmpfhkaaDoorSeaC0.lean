/- Package seasons: the run of a code that has a day, by the month of the day. -/
import Derived.Test.YtcabcmlnmpfhkaaDoorSeaOf
import Derived.Test.YtcabcmlnmpfhkaaDoorMonP
namespace Go.Proofs.YtcabcmlnmpfhkaaDoor
open Go.RowKit

/-- How many months a month is behind the first of a code. -/
def psd (m c : Int) : Int := (m - (sF c : Nat) + 12) % 12
/-- The year in which the run of a code begins that has the month; whether there is one. -/
def bgn (y m c : Int) : Int := adY y m (-psd m c)
def bgB (y m c : Int) : Bool := decide (psd m c < (sN c : Nat)) && (yr (bgn y m c) && yr (adY (bgn y m c) (sF c : Nat) ((sN c : Nat) - 1)))
def bgY (y m c : Int) : Int := if bgB y m c = true then bgn y m c else 0
theorem psd_bd (m c : Int) : 0 ≤ psd m c ∧ psd m c ≤ 11 := by unfold psd; omega
theorem psd_in {m c : Int} (hm : 1 ≤ m ∧ m ≤ 12) (hc : isC c = true) : psd m c = if (sF c : Int) ≤ m then m - sF c else m - sF c + 12 := by
  have := sFN hc
  unfold psd
  split <;> omega
theorem bgn_in {y m c : Int} (hm : 1 ≤ m ∧ m ≤ 12) (hc : isC c = true) : bgn y m c = if (sF c : Int) ≤ m then y else y - 1 := by
  have hf := sFN hc
  unfold bgn
  rw [psd_in hm hc]
  split
  · exact (ad_eq (z := y) (n := sF c) (by unfold ixI; omega) (by omega) (by omega)).1
  · exact (ad_eq (z := y - 1) (n := sF c) (by unfold ixI; omega) (by omega) (by omega)).1
theorem lst_in {z c : Int} (hc : isC c = true) : adY z (sF c : Nat) ((sN c : Nat) - 1) = (if sF c + sN c - 1 ≤ 12 then z else z + 1) ∧ adM z (sF c : Nat) ((sN c : Nat) - 1) = (if sF c + sN c - 1 ≤ 12 then ((sF c + sN c - 1 : Nat) : Int) else ((sF c + sN c - 13 : Nat) : Int)) := by
  have hf := sFN hc
  split
  · exact ad_eq (by unfold ixI; omega) (by omega) (by omega)
  · exact ad_eq (by unfold ixI; omega) (by omega) (by omega)
theorem sE_add {z c : Int} (hc : isC c = true) : sE z c = if (yr z && yr (adY z (sF c : Nat) ((sN c : Nat) - 1))) = true then 0 else 6 := by
  have hf := sFN hc
  unfold sE
  rw [if_pos hc, (lst_in hc).1]
  by_cases h : sF c + sN c - 1 ≤ 12
  · rw [if_pos h]
    cases yr z
    · simp
    · simp [Nat.not_lt.2 h]
  · rw [if_neg h]
    cases yr z
    · simp
    · cases yr (z + 1) <;> simp [Nat.not_le.1 h]
theorem sE_iff {z c : Int} (hc : isC c = true) : sE z c = 0 ↔ (yr z && yr (adY z (sF c : Nat) ((sN c : Nat) - 1))) = true := by
  rw [sE_add hc]
  split <;> simp_all
theorem sIn_this {d c : Int} (hc : isC c = true) : sIn (yrOf d) c d = decide (sE (yrOf d) c = 0 ∧ sF c ≤ moOf d ∧ moOf d < sF c + sN c) := by
  have hf := sFN hc
  obtain ⟨m1, m2, m3, m4⟩ := moOf_spec d
  obtain ⟨y1, y2⟩ := yrOf_spec d
  unfold sIn
  have e1 : sLo (yrOf d) c ≤ d ↔ sF c ≤ moOf d := by
    unfold sLo
    rw [sm_le (by omega)]
    constructor
    · intro h
      refine Decidable.byContradiction fun hn => ?_
      have := mst_mono (yrOf d) (a := moOf d) (b := sF c - 1) (by omega)
      omega
    · intro h
      have := mst_mono (yrOf d) (a := sF c - 1) (b := moOf d - 1) (by omega)
      omega
  have e2 : d ≤ sHi (yrOf d) c ↔ moOf d < sF c + sN c := by
    unfold sHi
    by_cases h : sF c - 1 + sN c ≤ 12
    · rw [sm_le h]
      constructor
      · intro g
        refine Decidable.byContradiction fun hn => ?_
        have := mst_mono (yrOf d) (a := sF c - 1 + sN c) (b := moOf d - 1) (by omega)
        omega
      · intro g
        have := mst_mono (yrOf d) (a := moOf d) (b := sF c - 1 + sN c) (by omega)
        omega
    · rw [sm_gt (by omega)]
      have := mst_mono (yrOf d + 1) (a := 0) (b := sF c - 1 + sN c - 12) (by omega)
      have h0 : mst (yrOf d + 1) 0 = stI (yrOf d + 1) := rfl
      constructor <;> intro <;> omega
  simp only [e1, e2]
theorem sIn_last {d c : Int} (hc : isC c = true) : sIn (yrOf d - 1) c d = decide (sE (yrOf d - 1) c = 0 ∧ moOf d + 13 ≤ sF c + sN c) := by
  have hf := sFN hc
  obtain ⟨m1, m2, m3, m4⟩ := moOf_spec d
  obtain ⟨y1, y2⟩ := yrOf_spec d
  have h12 := mst_12 (yrOf d - 1)
  rw [show yrOf d - 1 + 1 = yrOf d by omega] at h12
  unfold sIn
  have e1 : sLo (yrOf d - 1) c ≤ d := by
    unfold sLo
    rw [sm_le (by omega)]
    have := mst_mono (yrOf d - 1) (a := sF c - 1) (b := 12) (by omega)
    omega
  have e2 : d ≤ sHi (yrOf d - 1) c ↔ moOf d + 13 ≤ sF c + sN c := by
    unfold sHi
    by_cases h : sF c - 1 + sN c ≤ 12
    · rw [sm_le h]
      have := mst_mono (yrOf d - 1) (a := sF c - 1 + sN c) (b := 12) (by omega)
      constructor <;> intro <;> omega
    · rw [sm_gt (by omega), show yrOf d - 1 + 1 = yrOf d by omega]
      constructor
      · intro g
        refine Decidable.byContradiction fun hn => ?_
        have := mst_mono (yrOf d) (a := sF c - 1 + sN c - 12) (b := moOf d - 1) (by omega)
        omega
      · intro g
        have := mst_mono (yrOf d) (a := moOf d) (b := sF c - 1 + sN c - 12) (by omega)
        omega
  simp only [e2, e1, true_and]
theorem beg_of {d c : Int} (hc : isC c = true) : bgB (yrOf d) (moOf d : Nat) c = ofB d c ∧ bgY (yrOf d) (moOf d : Nat) c = ofY d c := by
  have hf := sFN hc
  obtain ⟨m1, m2, -, -⟩ := moOf_spec d
  have hm : (1 : Int) ≤ (moOf d : Nat) ∧ ((moOf d : Nat) : Int) ≤ 12 := by omega
  have key : bgB (yrOf d) (moOf d : Nat) c = ofB d c := by
    unfold bgB ofB
    rw [sIn_this hc, sIn_last hc, bgn_in hm hc, psd_in hm hc]
    by_cases h : sF c ≤ moOf d
    · rw [if_pos (by omega), if_pos (by omega)]
      have hn : ¬ moOf d + 13 ≤ sF c + sN c := by omega
      have hi : ((moOf d : Nat) : Int) - (sF c : Nat) < (sN c : Nat) ↔ moOf d < sF c + sN c := by omega
      have he := sE_iff (z := yrOf d) hc
      cases hq : (yr (yrOf d) && yr (adY (yrOf d) (sF c : Nat) ((sN c : Nat) - 1)))
      · rw [hq] at he
        have : ¬ sE (yrOf d) c = 0 := fun hh => by have := he.1 hh; cases this
        simp [hn, this]
      · have h0 := he.2 hq
        simp [hn, h0, hi, h]
    · rw [if_neg (by omega), if_neg (by omega)]
      have hi : ((moOf d : Nat) : Int) - (sF c : Nat) + 12 < (sN c : Nat) ↔ moOf d + 13 ≤ sF c + sN c := by omega
      have he := sE_iff (z := yrOf d - 1) hc
      cases hq : (yr (yrOf d - 1) && yr (adY (yrOf d - 1) (sF c : Nat) ((sN c : Nat) - 1)))
      · rw [hq] at he
        have : ¬ sE (yrOf d - 1) c = 0 := fun hh => by have := he.1 hh; cases this
        simp [h, this]
      · have h0 := he.2 hq
        simp [h, h0, hi]
  refine ⟨key, ?_⟩
  unfold bgY
  rw [key]
  unfold ofY ofB
  rw [sIn_this hc, sIn_last hc, bgn_in hm hc]
  by_cases h : sF c ≤ moOf d
  · rw [if_pos (show (sF c : Int) ≤ (moOf d : Nat) by omega)]
    have hn : ¬ moOf d + 13 ≤ sF c + sN c := by omega
    simp [hn, h]
  · rw [if_neg (show ¬ (sF c : Int) ≤ (moOf d : Nat) by omega)]
    simp [h]
end Go.Proofs.YtcabcmlnmpfhkaaDoor
