/- Ends as whole numbers: right ones, their order, the next one and the one before, their texts. No program is in it. -/
import Derived.Test.YtjgaoajbcbpbbaaDoorQIParse
namespace Go.Proofs.YtjgaoajbcbpbbaaDoor

def I64 (n : Int) : Prop := -9223372036854775808 ≤ n ∧ n ≤ 9223372036854775807
def I8 (n : Int) : Prop := -128 ≤ n ∧ n ≤ 127
/-- The error of an end. -/
def enE (i d : Int) : Int := if i = 0 then 0 else if (i = 1 ∨ i = -1) ∧ d = 0 then 0 else 5
/-- How two ends compare. -/
def enC (i d j e : Int) : Int := if i < j then -1 else if j < i then 1 else if d < e then -1 else if e < d then 1 else 0
/-- The next end: the error, and its two fields. -/
def nxE (i d : Int) : Int := if enE i d = 0 then (if i = 0 ∧ d = 9223372036854775807 then 15 else 0) else 5
def nxI (i d : Int) : Int := if nxE i d = 0 then i else 0
def nxD (i d : Int) : Int := if nxE i d = 0 then (if i = 0 then d + 1 else d) else 0
/-- The end before. -/
def pvE (i d : Int) : Int := if enE i d = 0 then (if i = 0 ∧ d = -9223372036854775808 then 15 else 0) else 5
def pvI (i d : Int) : Int := if pvE i d = 0 then i else 0
def pvD (i d : Int) : Int := if pvE i d = 0 then (if i = 0 then d - 1 else d) else 0
/-- The text of a right end. -/
def enL (i d : Int) : List UInt8 := if i < 0 then [45, 105, 110, 102] else if 0 < i then [105, 110, 102] else Lib.itoa d
def enS (i d : Int) : ByteArray := ⟨(enL i d).toArray⟩
def infS : ByteArray := ⟨#[105, 110, 102]⟩
def minS : ByteArray := ⟨#[45, 105, 110, 102]⟩
/-- What a text is the end of: the error, and its two fields. -/
def prE (s : ByteArray) : Int := if s = infS ∨ s = minS then 0 else if isTextB s.data.toList = true then (if -9223372036854775808 ≤ valB s.data.toList ∧ valB s.data.toList ≤ 9223372036854775807 then 0 else 15) else 5
def prI (s : ByteArray) : Int := if s = infS then 1 else if s = minS then -1 else 0
def prD (s : ByteArray) : Int := if s = infS ∨ s = minS then 0 else if prE s = 0 then valB s.data.toList else 0

theorem enE_cases (i d : Int) : (enE i d = 0 ∧ i = 0) ∨ (enE i d = 0 ∧ i = 1 ∧ d = 0) ∨ (enE i d = 0 ∧ i = -1 ∧ d = 0) ∨ (enE i d = 5 ∧ ¬ i = 0 ∧ ((i = 1 ∧ ¬ d = 0) ∨ (i = -1 ∧ ¬ d = 0) ∨ (¬ i = 1 ∧ ¬ i = -1))) := by
  unfold enE
  by_cases h0 : i = 0
  · simp [h0]
  · rw [if_neg h0]
    by_cases h1 : i = 1
    · by_cases hd : d = 0 <;> simp [h1, hd]
    · by_cases h2 : i = -1
      · by_cases hd : d = 0 <;> simp [h2, hd]
      · simp [h0, h1, h2]
theorem nxE_cases (i d : Int) : (enE i d = 0 ∧ i = 0 ∧ d = 9223372036854775807 ∧ (nxI i d = 0 ∧ nxD i d = 0 ∧ nxE i d = 15)) ∨ (enE i d = 0 ∧ i = 0 ∧ ¬ d = 9223372036854775807 ∧ (nxI i d = 0 ∧ nxD i d = d + 1 ∧ nxE i d = 0)) ∨ (enE i d = 0 ∧ i = 1 ∧ d = 0 ∧ (nxI i d = 1 ∧ nxD i d = 0 ∧ nxE i d = 0)) ∨ (enE i d = 0 ∧ i = -1 ∧ d = 0 ∧ (nxI i d = -1 ∧ nxD i d = 0 ∧ nxE i d = 0)) ∨ (enE i d = 5 ∧ (nxI i d = 0 ∧ nxD i d = 0 ∧ nxE i d = 5)) := by
  rcases enE_cases i d with ⟨e, rfl⟩ | ⟨e, rfl, rfl⟩ | ⟨e, rfl, rfl⟩ | ⟨e, -⟩
  · by_cases h : d = 9223372036854775807
    · subst h; exact .inl ⟨e, rfl, rfl, by decide, by decide, by decide⟩
    · have hE : nxE 0 d = 0 := by unfold nxE; rw [if_pos e, if_neg (fun q => h q.2)]
      exact .inr (.inl ⟨e, rfl, h, if_pos hE, by unfold nxD; rw [if_pos hE]; rfl, hE⟩)
  · exact .inr (.inr (.inl ⟨e, rfl, rfl, by decide, by decide, by decide⟩))
  · exact .inr (.inr (.inr (.inl ⟨e, rfl, rfl, by decide, by decide, by decide⟩)))
  · have hE : nxE i d = 5 := by unfold nxE; rw [if_neg (by rw [e]; decide)]
    exact .inr (.inr (.inr (.inr ⟨e, if_neg (by rw [hE]; decide), if_neg (by rw [hE]; decide), hE⟩)))

theorem pvE_cases (i d : Int) : (enE i d = 0 ∧ i = 0 ∧ d = (-9223372036854775808) ∧ (pvI i d = 0 ∧ pvD i d = 0 ∧ pvE i d = 15)) ∨ (enE i d = 0 ∧ i = 0 ∧ ¬ d = (-9223372036854775808) ∧ (pvI i d = 0 ∧ pvD i d = d - 1 ∧ pvE i d = 0)) ∨ (enE i d = 0 ∧ i = 1 ∧ d = 0 ∧ (pvI i d = 1 ∧ pvD i d = 0 ∧ pvE i d = 0)) ∨ (enE i d = 0 ∧ i = -1 ∧ d = 0 ∧ (pvI i d = -1 ∧ pvD i d = 0 ∧ pvE i d = 0)) ∨ (enE i d = 5 ∧ (pvI i d = 0 ∧ pvD i d = 0 ∧ pvE i d = 5)) := by
  rcases enE_cases i d with ⟨e, rfl⟩ | ⟨e, rfl, rfl⟩ | ⟨e, rfl, rfl⟩ | ⟨e, -⟩
  · by_cases h : d = (-9223372036854775808)
    · subst h; exact .inl ⟨e, rfl, rfl, by decide, by decide, by decide⟩
    · have hE : pvE 0 d = 0 := by unfold pvE; rw [if_pos e, if_neg (fun q => h q.2)]
      exact .inr (.inl ⟨e, rfl, h, if_pos hE, by unfold pvD; rw [if_pos hE]; rfl, hE⟩)
  · exact .inr (.inr (.inl ⟨e, rfl, rfl, by decide, by decide, by decide⟩))
  · exact .inr (.inr (.inr (.inl ⟨e, rfl, rfl, by decide, by decide, by decide⟩)))
  · have hE : pvE i d = 5 := by unfold pvE; rw [if_neg (by rw [e]; decide)]
    exact .inr (.inr (.inr (.inr ⟨e, if_neg (by rw [hE]; decide), if_neg (by rw [hE]; decide), hE⟩)))
theorem prE_cases (s : ByteArray) : (s = infS ∧ (prI s = 1 ∧ prD s = 0 ∧ prE s = 0)) ∨ (¬ s = infS ∧ s = minS ∧ (prI s = -1 ∧ prD s = 0 ∧ prE s = 0)) ∨ (¬ s = infS ∧ ¬ s = minS ∧ isTextB s.data.toList = false ∧ (prI s = 0 ∧ prD s = 0 ∧ prE s = 5)) ∨ (¬ s = infS ∧ ¬ s = minS ∧ isTextB s.data.toList = true ∧ fitsB (valB s.data.toList) = false ∧ (prI s = 0 ∧ prD s = 0 ∧ prE s = 15)) ∨ (¬ s = infS ∧ ¬ s = minS ∧ isTextB s.data.toList = true ∧ fitsB (valB s.data.toList) = true ∧ (prI s = 0 ∧ prD s = valB s.data.toList ∧ prE s = 0)) := by
  unfold prD prI prE fitsB
  by_cases h1 : s = infS
  · simp [h1]
  · by_cases h2 : s = minS
    · have : ¬ minS = infS := by decide
      simp [h2, this]
    · cases h3 : isTextB s.data.toList
      · simp [h1, h2]
      · by_cases h4 : -9223372036854775808 ≤ valB s.data.toList ∧ valB s.data.toList ≤ 9223372036854775807
        · simp [h1, h2, h4]
        · simp [h1, h2, h4]
theorem str_is {s : ByteArray} {l : List UInt8} (h : s = ⟨l.toArray⟩) : (s.toList == l) = true := by rw [beq_iff_eq, ByteArray.toList_eq, h]
theorem str_not {s : ByteArray} {l : List UInt8} (h : ¬ s = ⟨l.toArray⟩) : (s.toList == l) = false := by
  rw [beq_eq_false_iff_ne, ByteArray.toList_eq]
  intro e
  apply h
  rw [← e]
theorem minS_not : minS ≠ infS := by decide
theorem enS_inf (d : Int) : enS 1 d = infS := rfl
theorem enS_min (d : Int) : enS (-1) d = minS := rfl
theorem enS_day (d : Int) : enS 0 d = ⟨(Lib.itoa d).toArray⟩ := rfl
theorem itoa_head (d : Int) : ∀ c r, Lib.itoa d = c :: r → c ≠ 105 := by
  intro c r h hc
  obtain ⟨h1, _⟩ := itoa_facts d
  rw [h, hc] at h1
  revert h1
  unfold isTextB bare Lib.trimPrefix Lib.hasPrefix
  simp [digitB]
end Go.Proofs.YtjgaoajbcbpbbaaDoor
