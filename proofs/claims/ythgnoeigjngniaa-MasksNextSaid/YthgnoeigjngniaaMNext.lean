/- The law MasksNext: it returns true for every mask and any two numbers. -/
import Derived.Test.YthgnoeigjngniaaMNum
namespace Go.Proofs.Ythgnoeigjngniaa
open Go.RowKit

theorem gives_opt (o : Option Nat) : givesB (optV o) (errO o) (optV o) o.isSome 16 = true := by cases o <;> simp [givesB, optV, errO]

set_option maxRecDepth 100000 in
set_option maxHeartbeats 4000000 in
theorem next_law (v : Value) (n k : Int) (w W : World) (hv : BS W W.heap.size v) (n0 : -9223372036854775808 ≤ n) (n1 : n ≤ 9223372036854775807) (k0 : -9223372036854775808 ≤ k) (k1 : k ≤ 9223372036854775807) (h : Ok w W) :
    Calls Try.prog 4 #[.agg #[v], .int .i64 n, .int .i64 k] W fun e w' => e = .returned (.bool true) ∧ Ok w w' := by
  have HO : Hid (∀ o, Calls Try.prog 8 #[.agg #[v]] (W.alloc o) fun e w' => ∃ s, e = .returned (.string s) ∧ MaskS s ∧ Ok w w') :=
    fun o => (of_mask v _ (bs_alloc hv o)).mono fun _ _ ⟨s, h1, h2, h3⟩ => ⟨s, h1, h2, (mask_new h o).step h3⟩
  obtain ⟨A, sn, sc, rfl, -⟩ := id hv
  clear hv h
  go_enter Try.func4, Try.ntmps4
  go_wp2_with fail
  refine (HO.out _).mono ?_
  rintro e w2 ⟨s, rfl, hS, ho⟩
  clear HO
  have KA : Hid (∀ X, Ok w X → Calls Try.prog 24 #[.string s, .int .i64 n] X fun e w' => e = .returned (.tuple #[.int .i64 (optV (nextS (rv s) n)), .int .i64 (errO (nextS (rv s) n))]) ∧ Ok w w') := fun X hX => c_next hS hX n n0 n1
  have KB : Hid (∀ X, Ok w X → Calls Try.prog 25 #[.string s, .int .i64 n] X fun e w' => e = .returned (.tuple #[.int .i64 (optV (prevS (rv s) n)), .int .i64 (errO (prevS (rv s) n))]) ∧ Ok w w') := fun X hX => c_prev hS hX n n0 n1
  have RA : Hid (∀ X, Ok w X → Calls Try.prog 26 #[.string s, .int .i64 n] X fun e w' => e = .returned (.tuple #[.int .i64 (optV (nextS (rv s) n)), .bool (nextS (rv s) n).isSome]) ∧ Ok w w') := fun X hX => cr_next hS hX n n0 n1
  have RB : Hid (∀ X, Ok w X → Calls Try.prog 27 #[.string s, .int .i64 n] X fun e w' => e = .returned (.tuple #[.int .i64 (optV (prevS (rv s) n)), .bool (prevS (rv s) n).isSome]) ∧ Ok w w') := fun X hX => cr_prev hS hX n n0 n1
  have HK : Hid (∀ X y, Ok w X → y = k → Calls Try.prog 19 #[.string s, .int .i64 y] X fun e w' => e = .returned (.bool (hasI (rv s) k)) ∧ Ok w w') := fun X y hX hy => by rw [hy]; exact c_has hS hX k k0 k1
  have HN : Hid (∀ X y, Ok w X → y = n → Calls Try.prog 19 #[.string s, .int .i64 y] X fun e w' => e = .returned (.bool (hasI (rv s) n)) ∧ Ok w w') := fun X y hX hy => by rw [hy]; exact c_has hS hX n n0 n1
  have GA := Lib.hid (gives_opt (nextS (rv s) n))
  have GB := Lib.hid (gives_opt (prevS (rv s) n))
  have F1 : hasI (rv s) k = true → n ≤ k → (nextS (rv s) n).isSome = true ∧ optV (nextS (rv s) n) ≤ k := fun hk hle => by
    cases ho : nextS (rv s) n with
    | none => have := nextS_none ho hk; omega
    | some u => exact ⟨rfl, (nextS_some hS.plcs ho).2.2 k hk hle⟩
  have F2 : hasI (rv s) k = true → k ≤ n → (prevS (rv s) n).isSome = true ∧ k ≤ optV (prevS (rv s) n) := fun hk hle => by
    cases ho : prevS (rv s) n with
    | none => have := prevS_none ho hk; omega
    | some u => exact ⟨rfl, (prevS_some hS.plcs ho).2.2 k hk hle⟩
  have F3 : hasI (rv s) n = true → optV (nextS (rv s) n) = n ∧ optV (prevS (rv s) n) = n := fun hn => by
    have h0 : 0 ≤ n := by simp only [hasI, Bool.and_eq_true, decide_eq_true_eq] at hn; exact hn.1
    rw [nextS_has hn, prevS_has hn]
    have : optV (some n.toNat) = n := by show ((n.toNat : Nat) : Int) = n; omega
    exact ⟨this, this⟩
  clear hS
  generalize hasI (rv s) k = hk at *
  generalize hasI (rv s) n = hn at *
  generalize errO (nextS (rv s) n) = ea at *
  generalize errO (prevS (rv s) n) = eb at *
  generalize optV (nextS (rv s) n) = a at *
  generalize optV (prevS (rv s) n) = b at *
  generalize (nextS (rv s) n).isSome = ia at *
  generalize (prevS (rv s) n).isSome = ib at *
  have q3 : hn = false ∨ (hn = true ∧ a = n ∧ b = n) := by
    cases hn
    · exact .inl rfl
    · exact .inr ⟨rfl, F3 rfl⟩
  have q1 : hk = false ∨ (hk = true ∧ n ≤ k ∧ ¬ k ≤ n ∧ ia = true ∧ ¬ k < a) ∨ (hk = true ∧ ¬ n ≤ k ∧ k ≤ n ∧ ib = true ∧ ¬ b < k) ∨ (hk = true ∧ n ≤ k ∧ k ≤ n ∧ ia = true ∧ ¬ k < a ∧ ib = true ∧ ¬ b < k) := by
    cases hk
    · exact .inl rfl
    · right
      by_cases h1 : n ≤ k <;> by_cases h2 : k ≤ n
      · have := F1 rfl h1; have := F2 rfl h2; exact .inr (.inr ⟨rfl, h1, h2, by simp_all, by omega, by simp_all, by omega⟩)
      · have := F1 rfl h1; exact .inl ⟨rfl, h1, h2, by simp_all, by omega⟩
      · have := F2 rfl h2; exact .inr (.inl ⟨rfl, h1, h2, by simp_all, by omega⟩)
      · omega
  clear F1 F2 F3
  have q3' : hn = false ∨ (hn = true ∧ (a == n) = true ∧ (b == n) = true) := by
    rcases q3 with h | ⟨h1, h2, h3⟩
    · exact .inl h
    · exact .inr ⟨h1, by rw [beq_iff_eq]; exact h2, by rw [beq_iff_eq]; exact h3⟩
  clear q3
  rcases q1 with rfl | ⟨rfl, c1, c2, rfl, c3⟩ | ⟨rfl, c1, c2, rfl, c3⟩ | ⟨rfl, c1, c2, rfl, c3, rfl, c4⟩
  all_goals
    rcases q3' with rfl | ⟨rfl, d1, d2⟩
  all_goals
    go_wp2_with (first
      | (go_at_call 24; refine (KA.out _ (by assumption)).mono ?_; rintro e w' ⟨rfl, hk⟩)
      | (go_at_call 25; refine (KB.out _ (by assumption)).mono ?_; rintro e w' ⟨rfl, hk⟩)
      | (go_at_call 26; refine (RA.out _ (by assumption)).mono ?_; rintro e w' ⟨rfl, hk⟩)
      | (go_at_call 27; refine (RB.out _ (by assumption)).mono ?_; rintro e w' ⟨rfl, hk⟩)
      | (go_at_call 19; refine (HK.out _ _ (by assumption) (by exact rfl)).mono ?_; rintro e w' ⟨rfl, hk⟩)
      | (go_at_call 19; refine (HN.out _ _ (by assumption) (by exact rfl)).mono ?_; rintro e w' ⟨rfl, hk⟩)
      | (go_at_call 21; ((with_reducible refine (gives_t _ _ _ _ _ _ GA.out).mono ?_); rintro e w' ⟨rfl, rfl⟩))
      | (go_at_call 21; ((with_reducible refine (gives_t _ _ _ _ _ _ GB.out).mono ?_); rintro e w' ⟨rfl, rfl⟩))
      | (go_at_call 23; refine (lives_t w _ (by assumption)).mono ?_; rintro e w' ⟨rfl, hk⟩))
    go_ret
    exact ⟨rfl, by assumption⟩
end Go.Proofs.Ythgnoeigjngniaa
