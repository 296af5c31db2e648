/- Plain facts on decimal texts: which texts are those of integers, the integer of such a text, and how the library's parse of it ends. No program. -/
import Derived.Lib.ParseIntB
import Derived.Lib.ItoaNum
import Derived.Lib.Strings
namespace Go.Proofs.YtmbaohjekeiphaaGreatDoor

def digitB (c : UInt8) : Bool := decide (48 ≤ c.toNat ∧ c.toNat ≤ 57)
/-- The text without a minus sign ahead. -/
def bare (l : List UInt8) : List UInt8 := Lib.trimPrefix l [45]
def isTextB (l : List UInt8) : Bool := match bare l with
  | [] => false
  | c :: r => if c.toNat = 48 then decide (l = [48]) else (c :: r).all digitB
def numFrom (acc : Nat) (l : List UInt8) : Nat := l.foldl (fun a c => a * 10 + (c.toNat - 48)) acc
def valB (l : List UInt8) : Int := if Lib.hasPrefix l [45] then -(numFrom 0 (bare l) : Int) else (numFrom 0 (bare l) : Int)

theorem bare_minus (r : List UInt8) : bare (45 :: r) = r := by simp [bare, Lib.trimPrefix, Lib.hasPrefix]
theorem hp_minus (r : List UInt8) : Lib.hasPrefix (45 :: r) [45] = true := by simp [Lib.hasPrefix]
theorem hp_other {c : UInt8} (r : List UInt8) (h : c ≠ 45) : Lib.hasPrefix (c :: r) [45] = false := by
  have hb : ((45 : UInt8) == c) = false := by rw [beq_eq_false_iff_ne]; exact fun e => h (Eq.symm e)
  show ([45] : List UInt8).isPrefixOf (c :: r) = false
  simp only [List.isPrefixOf, hb, Bool.false_and]
theorem bare_other {c : UInt8} (r : List UInt8) (h : c ≠ 45) : bare (c :: r) = c :: r := by simp [bare, Lib.trimPrefix, hp_other r h]
theorem bare_nil : bare [] = [] := by simp [bare, Lib.trimPrefix, Lib.hasPrefix]

theorem numFrom_ge (l : List UInt8) : ∀ acc, acc ≤ numFrom acc l := by
  induction l with
  | nil => intro acc; exact Nat.le_refl _
  | cons c r ih => intro acc; exact Nat.le_trans (by omega) (ih (acc * 10 + (c.toNat - 48)))

theorem parseUint_digits (M : Nat) (hM : M = 18446744073709551615) (l : List UInt8) (hl : l.all digitB = true) :
    ∀ acc, Lib.parseUintM M acc l = if l = [] ∨ numFrom acc l ≤ M then .ok (numFrom acc l) else .range := by
  induction l with
  | nil => intro acc; simp [Lib.parseUintM, numFrom]
  | cons c r ih =>
    intro acc
    simp only [List.all_cons, Bool.and_eq_true] at hl
    have hd : 48 ≤ c.toNat ∧ c.toNat ≤ 57 := by simpa [digitB] using hl.1
    have hge := numFrom_ge r (acc * 10 + (c.toNat - 48))
    have hcons : numFrom acc (c :: r) = numFrom (acc * 10 + (c.toNat - 48)) r := rfl
    simp only [Lib.parseUintM, if_pos hd]
    by_cases h1 : 1844674407370955162 ≤ acc
    · rw [if_pos h1, if_neg (by rintro (h | h); · cases h
                                · omega)]
    · rw [if_neg h1]
      by_cases h2 : M < acc * 10 + (c.toNat - 48)
      · rw [if_pos h2, if_neg (by rintro (h | h); · cases h
                                  · omega)]
      · rw [if_neg h2, ih hl.2, hcons]
        by_cases h3 : r = []
        · subst h3; simp [numFrom]; omega
        · by_cases h4 : numFrom (acc * 10 + (c.toNat - 48)) r ≤ M
          · rw [if_pos (.inr h4), if_pos (.inr h4)]
          · rw [if_neg (by rintro (h | h); · exact h3 h
                           · exact h4 h), if_neg (by rintro (h | h); · cases h
                                                     · exact h4 h)]

/-- A text that is right: its digits, behind the sign, are all digits, and there is one. -/
theorem bare_digits {l : List UInt8} (h : isTextB l = true) : bare l ≠ [] ∧ (bare l).all digitB = true := by
  unfold isTextB at h
  split at h
  · cases h
  · rename_i c r he
    split at h
    · rename_i h48
      have : l = [48] := by simpa using h
      subst this
      rw [bare_other _ (by decide)]; decide
    · rw [he]; exact ⟨by simp, h⟩

theorem parseInt_of (c : UInt8) (r d : List UInt8) (n : Nat) (e : (if c.toNat = 43 ∨ c.toNat = 45 then r else c :: r) = d) (h1 : d ≠ []) (h2 : d.all digitB = true) (hn : numFrom 0 d = n) :
    Lib.parseIntB 64 (c :: r) = if n ≤ 18446744073709551615 then (if ¬ c.toNat = 45 ∧ 9223372036854775808 ≤ n then .range else if c.toNat = 45 ∧ 9223372036854775808 < n then .range else .ok (if c.toNat = 45 then -(n : Int) else n)) else .range := by
  unfold Lib.parseIntB
  simp only [e, Lib.parseUintB, if_neg h1, parseUint_digits (2 ^ 64 - 1) (by decide) d h2, hn]
  by_cases h3 : n ≤ 18446744073709551615
  · rw [if_pos (Or.inr (by omega)), if_pos h3]
  · rw [if_neg (by rintro (h | h); · exact h1 h
                   · omega), if_neg h3]

theorem parseInt_right {l : List UInt8} (h : isTextB l = true) :
    Lib.parseIntB 64 l = if -9223372036854775808 ≤ valB l ∧ valB l ≤ 9223372036854775807 then .ok (valB l) else .range := by
  obtain ⟨h1, h2⟩ := bare_digits h
  cases l with
  | nil => rw [bare_nil] at h1; exact absurd rfl h1
  | cons c r =>
    by_cases hc : c = 45
    · subst hc
      have hv : valB (45 :: r) = -(numFrom 0 r : Int) := by simp [valB, hp_minus, bare_minus]
      rw [bare_minus] at h1 h2
      have h45 : (45 : UInt8).toNat = 45 := by decide
      rw [parseInt_of 45 r r _ (if_pos (.inr h45)) h1 h2 rfl, hv]
      generalize numFrom 0 r = n
      by_cases h3 : n ≤ 18446744073709551615
      · rw [if_pos h3, if_neg (by simp)]
        by_cases h4 : n ≤ 9223372036854775808
        · rw [if_neg (by omega), if_pos h45, if_pos (by omega)]
        · rw [if_pos ⟨h45, by omega⟩, if_neg (by omega)]
      · rw [if_neg h3, if_neg (by omega)]
    · have hn : ¬ c.toNat = 45 := fun e => hc (by rw [← UInt8.toNat_inj]; exact e)
      have hv : valB (c :: r) = (numFrom 0 (c :: r) : Int) := by simp [valB, hp_other r hc, bare_other r hc]
      rw [bare_other r hc] at h1 h2
      have h43 : ¬ c.toNat = 43 := by
        have : digitB c = true := by simp only [List.all_cons, Bool.and_eq_true] at h2; exact h2.1
        simp [digitB] at this; omega
      rw [parseInt_of c r (c :: r) _ (if_neg (by omega)) h1 h2 rfl, hv]
      generalize numFrom 0 (c :: r) = n
      by_cases h3 : n ≤ 18446744073709551615
      · rw [if_pos h3]
        by_cases h4 : n ≤ 9223372036854775807
        · rw [if_neg (by omega), if_neg (by omega), if_neg hn, if_pos (by omega)]
        · rw [if_pos ⟨hn, by omega⟩, if_neg (by omega)]
      · rw [if_neg h3, if_neg (by omega)]
end Go.Proofs.YtmbaohjekeiphaaGreatDoor
