/- The law IntsText: it returns true for every input. -/
import Derived.Test.YtjgaoajbcbpbbaaDoorQText
namespace Go.Proofs.YtjgaoajbcbpbbaaDoor
open Go.RowKit

theorem numFrom_snoc (l : List UInt8) (c : UInt8) (a : Nat) : numFrom a (l ++ [c]) = numFrom a l * 10 + (c.toNat - 48) := by simp [numFrom, List.foldl_append]
theorem u8d {d : Nat} (h : d < 10) : (UInt8.ofNat (48 + d)).toNat = 48 + d := by rw [UInt8.toNat_ofNat', Nat.mod_eq_of_lt (by omega)]
theorem dec_facts : ∀ u : Nat, numFrom 0 (Lib.decDigits u) = u ∧ (Lib.decDigits u).all digitB = true ∧ (1 ≤ u → ∃ c r, Lib.decDigits u = c :: r ∧ 49 ≤ c.toNat ∧ c.toNat ≤ 57) := by
  intro u
  induction u using Nat.strongRecOn with
  | ind u ih =>
    rw [Lib.decDigits]
    by_cases h : u < 10
    · rw [dif_pos h]
      have e := u8d h
      refine ⟨by simp only [numFrom, List.foldl_cons, List.foldl_nil]; omega, by simp only [List.all_cons, List.all_nil, Bool.and_true, digitB, decide_eq_true_eq]; omega, fun h1 => ⟨_, [], rfl, by omega, by omega⟩⟩
    · rw [dif_neg h]
      obtain ⟨h1, h2, h3⟩ := ih (u / 10) (by omega)
      have e := u8d (d := u % 10) (by omega)
      refine ⟨by rw [numFrom_snoc, h1]; omega, by rw [List.all_append, h2]; simp only [List.all_cons, List.all_nil, Bool.and_true, digitB, Bool.true_and, decide_eq_true_eq]; omega, fun _ => ?_⟩
      obtain ⟨c, r, hc, h4⟩ := h3 (by omega)
      exact ⟨c, r ++ [_], by rw [hc]; rfl, h4⟩
theorem dec_ne (u : Nat) : Lib.decDigits u ≠ [] := by
  rw [Lib.decDigits]
  by_cases h : u < 10
  · rw [dif_pos h]; simp
  · rw [dif_neg h]; simp
theorem itoa_facts (n : Int) : isTextB (Lib.itoa n) = true ∧ valB (Lib.itoa n) = n := by
  unfold Lib.itoa
  by_cases h : n < 0
  · rw [if_pos h]
    obtain ⟨h1, h2, h3⟩ := dec_facts n.natAbs
    obtain ⟨c, r, hc, h4, h5⟩ := h3 (by omega)
    refine ⟨?_, ?_⟩
    · unfold isTextB
      rw [bare_minus, hc]
      simp only
      rw [if_neg (by omega), ← hc]; exact h2
    · unfold valB
      rw [hp_minus, if_pos rfl, bare_minus, h1]; clear h3; omega
  · rw [if_neg h]
    obtain ⟨h1, h2, h3⟩ := dec_facts n.toNat
    by_cases h0 : n = 0
    · subst h0
      rw [show Lib.decDigits (0 : Int).toNat = [48] by rw [show (0 : Int).toNat = 0 from rfl, Lib.decDigits]; rfl]
      decide
    · obtain ⟨c, r, hc, h4, h5⟩ := h3 (by omega)
      have hcm : c ≠ 45 := fun e => by rw [e] at h4; exact absurd h4 (by decide)
      refine ⟨?_, ?_⟩
      · unfold isTextB
        rw [hc, bare_other r hcm]
        simp only
        rw [if_neg (by omega), ← hc]; exact h2
      · unfold valB
        rw [hc, hp_other r hcm, bare_other r hcm, ← hc, h1]
        clear h3; simp; omega
theorem dec_len : ∀ (k u : Nat), u < 10 ^ (k + 1) → (Lib.decDigits u).length ≤ k + 1 := by
  intro k
  induction k with
  | zero => intro u h; rw [Lib.decDigits, dif_pos (by simpa using h)]; simp
  | succ k ih =>
    intro u h
    rw [Lib.decDigits]
    by_cases h1 : u < 10
    · rw [dif_pos h1]; simp
    · rw [dif_neg h1, List.length_append]
      have h2 : u / 10 < 10 ^ (k + 1) := by rw [Nat.pow_succ] at h; omega
      have := ih (u / 10) h2
      simp only [List.length_cons, List.length_nil]; omega
theorem itoa_len (n : Int) (h0 : -9223372036854775808 ≤ n) (h1 : n ≤ 9223372036854775807) : (Lib.itoa n).length ≤ 20 := by
  have hd : ∀ u : Nat, u ≤ 9223372036854775808 → (Lib.decDigits u).length ≤ 19 := fun u hu => dec_len 18 u (by omega)
  unfold Lib.itoa
  split
  · simp only [List.length_cons]; have := hd n.natAbs (by omega); omega
  · have := hd n.toNat (by omega); omega
end Go.Proofs.YtjgaoajbcbpbbaaDoor
