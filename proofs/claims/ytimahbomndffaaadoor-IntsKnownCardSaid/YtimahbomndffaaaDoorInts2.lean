/- The functions of package ints that only reckon with numbers, further ones: Div, Mod, Mul, Pow10, Gcd. -/
import Derived.Test.YtimahbomndffaaaDoorInts
import Derived.Test.YtimahbomndffaaaDoorMath
import Derived.Lib.Hide
import Derived.Deep.QuietTactic
import Derived.BigQuiet
import Derived.Test.YtimahbomndffaaaDoorShelf
namespace Go.Proofs.YtimahbomndffaaaDoor
open Go.RowKit Go.Shelf

theorem mul64_any (x y : Nat) (hx : x < 18446744073709551616) (hy : y < 18446744073709551616) (w : World) :
    Calls Tryd.prog 31 #[.int .u64 x, .int .u64 y] w fun e w' => e = .returned (.tuple #[.int .u64 ((x * y / 18446744073709551616 : Nat) : Int), .int .u64 ((x * y % 18446744073709551616 : Nat) : Int)]) ∧ w' = w :=
  Any.bits_Mul64 Tryd.lays264 x y hx hy w

theorem rupB_t {a b : Int} (h : a.tmod b ≠ 0 ∧ ¬ (a.tmod b < 0 ↔ b < 0)) : rupB (a.tmod b) b = true := by simp only [rupB, decide_eq_true_eq]; exact h
theorem rupB_f {a b : Int} (h : ¬ (a.tmod b ≠ 0 ∧ ¬ (a.tmod b < 0 ↔ b < 0))) : rupB (a.tmod b) b = false := by simp only [rupB, decide_eq_false_iff_not]; exact h
theorem div_wrap {a b : Int} (hb : b ≠ 0) (ha : -9223372036854775808 ≤ a) (ha' : a ≤ 9223372036854775807) (hm : ¬ (a = -9223372036854775808 ∧ b = -1)) (h : a.tmod b ≠ 0 ∧ ¬ (a.tmod b < 0 ↔ b < 0)) :
    wrap64 (wrap64 (a.tdiv b) - 1) = a.fdiv b := by
  have h1 := tdiv_bd ha ha' hm
  have h2 := fdiv_lo hb ha ha' h
  rw [fdiv_up hb h, IntWalk.wrap64_in _ ⟨h1.1, h1.2⟩, IntWalk.wrap64_in _ ⟨h2, by omega⟩]
theorem div_wrap' {a b : Int} (ha : -9223372036854775808 ≤ a) (ha' : a ≤ 9223372036854775807) (hm : ¬ (a = -9223372036854775808 ∧ b = -1)) (h : ¬ (a.tmod b ≠ 0 ∧ ¬ (a.tmod b < 0 ↔ b < 0))) :
    wrap64 (a.tdiv b) = a.fdiv b := by
  have h1 := tdiv_bd ha ha' hm
  rw [fdiv_eq h, IntWalk.wrap64_in _ ⟨h1.1, h1.2⟩]
theorem mod_wrap {a b : Int} (hb : b ≠ 0) (h0 : -9223372036854775808 ≤ b) (h1 : b ≤ 9223372036854775807) (h : a.tmod b ≠ 0 ∧ ¬ (a.tmod b < 0 ↔ b < 0)) : wrap64 (a.tmod b + b) = a.fmod b := by
  have h2 := fmod_bd (a := a) hb
  rw [← fmod_up hb h, IntWalk.wrap64_in _ ⟨by omega, by omega⟩]

set_option maxHeartbeats 400000 in
theorem div_any (a b : Int) (w : World) (ha : -9223372036854775808 ≤ a) (ha' : a ≤ 9223372036854775807) (hb : b ≠ 0) (hm : ¬ (a = -9223372036854775808 ∧ b = -1)) :
    Calls Tryd.prog 19 #[.int .i64 a, .int .i64 b] w fun e w' => e = .returned (.tuple #[.int .i64 (a.fdiv b), .int .i64 0]) ∧ w = w' := by
  have hb0 : (b == 0) = false := by simp [hb]
  have HM := Lib.hid hm
  have HB := Lib.hid hb
  have htest : (a == -9223372036854775808) = false ∨ ((a == -9223372036854775808) = true ∧ (b == -1) = false) := by
    by_cases h : a = -9223372036854775808
    · exact .inr ⟨by simp [h], by simp; intro h'; exact hm ⟨h, h'⟩⟩
    · exact .inl (by simp [h])
  by_cases hr : a.tmod b ≠ 0 ∧ ¬ (a.tmod b < 0 ↔ b < 0)
  · have hx := rupB_t hr
    have HR := Lib.hid hr
    clear hr hb hm
    rcases htest with ht | ⟨ht, ht'⟩
    all_goals
      go_enter Tryd.func19, Tryd.ntmps19
      go_wp2_with (go_at_call 38; refine (rup_any _ _ _).mono ?_; rintro e w' ⟨rfl, rfl⟩)
      go_ret2
      exact ⟨ret_2 (div_wrap HB.out ha ha' HM.out HR.out) rfl, rfl⟩
  · have hx := rupB_f hr
    have HR := Lib.hid hr
    clear hr hb hm
    rcases htest with ht | ⟨ht, ht'⟩
    all_goals
      go_enter Tryd.func19, Tryd.ntmps19
      go_wp2_with (go_at_call 38; refine (rup_any _ _ _).mono ?_; rintro e w' ⟨rfl, rfl⟩)
      go_ret2
      exact ⟨ret_2 (div_wrap' ha ha' HM.out HR.out) rfl, rfl⟩

theorem div_nil (a : Int) (w : World) :
    Calls Tryd.prog 19 #[.int .i64 a, .int .i64 0] w fun e w' => e = .returned (.tuple #[.int .i64 0, .int .i64 1]) ∧ w = w' := by
  go_enter Tryd.func19, Tryd.ntmps19
  go_wp2
  go_ret2
  exact ⟨rfl, rfl⟩
theorem div_over (w : World) :
    Calls Tryd.prog 19 #[.int .i64 (-9223372036854775808), .int .i64 (-1)] w fun e w' => e = .returned (.tuple #[.int .i64 0, .int .i64 15]) ∧ w = w' := by
  go_enter Tryd.func19, Tryd.ntmps19
  go_wp2
  go_ret2
  exact ⟨rfl, rfl⟩
theorem mod_nil (a : Int) (w : World) :
    Calls Tryd.prog 20 #[.int .i64 a, .int .i64 0] w fun e w' => e = .returned (.tuple #[.int .i64 0, .int .i64 1]) ∧ w = w' := by
  go_enter Tryd.func20, Tryd.ntmps20
  go_wp2
  go_ret2
  exact ⟨rfl, rfl⟩
set_option maxHeartbeats 400000 in
theorem mod_any (a b : Int) (w : World) (hb : b ≠ 0) (h0 : -9223372036854775808 ≤ b) (h1 : b ≤ 9223372036854775807) :
    Calls Tryd.prog 20 #[.int .i64 a, .int .i64 b] w fun e w' => e = .returned (.tuple #[.int .i64 (a.fmod b), .int .i64 0]) ∧ w = w' := by
  have hb0 : (b == 0) = false := by simp [hb]
  have HB := Lib.hid hb
  by_cases hr : a.tmod b ≠ 0 ∧ ¬ (a.tmod b < 0 ↔ b < 0)
  · have hx := rupB_t hr
    have HR := Lib.hid hr
    clear hr hb
    go_enter Tryd.func20, Tryd.ntmps20
    go_wp2_with (go_at_call 38; refine (rup_any _ _ _).mono ?_; rintro e w' ⟨rfl, rfl⟩)
    go_ret2
    exact ⟨ret_2 (mod_wrap HB.out h0 h1 HR.out) rfl, rfl⟩
  · have hx := rupB_f hr
    have HR := Lib.hid hr
    clear hr hb
    go_enter Tryd.func20, Tryd.ntmps20
    go_wp2_with (go_at_call 38; refine (rup_any _ _ _).mono ?_; rintro e w' ⟨rfl, rfl⟩)
    go_ret2
    exact ⟨ret_2 (fmod_eq HR.out).symm rfl, rfl⟩

theorem mul64_lo (x y : Nat) (p : Int) (hx : x < 18446744073709551616) (hy : y < 18446744073709551616) (hp : p = ((x * y : Nat) : Int)) (h : p < 18446744073709551616) (w : World) :
    Calls Tryd.prog 31 #[.int .u64 x, .int .u64 y] w fun e w' => e = .returned (.tuple #[.int .u64 0, .int .u64 p]) ∧ w = w' := by
  refine (mul64_any x y hx hy w).mono ?_
  rintro e w' ⟨rfl, rfl⟩
  refine ⟨ret_2 ?_ ?_, rfl⟩
  · generalize x * y = q at *; omega
  · generalize x * y = q at *; omega
theorem mul64_hi (x y : Nat) (p q : Int) (hx : x < 18446744073709551616) (hy : y < 18446744073709551616) (hp : p = ((x * y : Nat) : Int) / 18446744073709551616) (hq : q = ((x * y : Nat) : Int) % 18446744073709551616) (w : World) :
    Calls Tryd.prog 31 #[.int .u64 x, .int .u64 y] w fun e w' => e = .returned (.tuple #[.int .u64 p, .int .u64 q]) ∧ w = w' := by
  refine (mul64_any x y hx hy w).mono ?_
  rintro e w' ⟨rfl, rfl⟩
  refine ⟨ret_2 ?_ ?_, rfl⟩
  · generalize x * y = q at *; omega
  · generalize x * y = q at *; omega

set_option maxHeartbeats 1000000 in
theorem mul_any (a b : Int) (w : World) (ha : -9223372036854775808 ≤ a) (ha' : a ≤ 9223372036854775807) (hb : -9223372036854775808 ≤ b) (hb' : b ≤ 9223372036854775807) :
    Calls Tryd.prog 12 #[.int .i64 a, .int .i64 b] w fun e w' => e = .returned (.tuple #[.int .i64 (fitV (a * b)), .int .i64 (fitE (a * b))]) ∧ Below w.heap.size w w' := by
  have hms := mul_size a b
  by_cases hp : ((a.natAbs * b.natAbs : Nat) : Int) < 18446744073709551616
  · obtain ⟨p, hpe⟩ : ∃ p : Int, p = ((a.natAbs * b.natAbs : Nat) : Int) := ⟨_, rfl⟩
    have hp0 : 0 ≤ p := by omega
    rw [← hpe] at hp hms
    have HP := Lib.hid hpe
    clear hpe
    by_cases ha0 : a < 0 <;> by_cases hb0 : b < 0 <;> simp only [ha0, hb0, decide_true, decide_false, bne_self_eq_false, Bool.false_eq_true, if_false, Bool.true_bne, Bool.false_bne, Bool.not_false, if_true] at hms
    all_goals
      rw [hms]
      clear hms
      go_enter Tryd.func12, Tryd.ntmps12
      go_wp2_with (first
        | (go_at_call 32; refine (mag_any _ _ (by assumption) (by assumption)).mono ?_; rintro e w' ⟨rfl, rfl⟩)
        | (go_at_call 31; refine (mul64_lo _ _ p (by omega) (by omega) HP.out hp _).mono ?_; rintro e w' ⟨rfl, rfl⟩)
        | (go_at_call 33; refine (signed_any _ _ _ hp0 hp).mono ?_; rintro e w' ⟨rfl, rfl⟩))
      go_ret2
      exact ⟨rfl, by go_grown⟩
  · have hv : fitV (a * b) = 0 := fitV_out (by rw [hms]; split <;> omega)
    have he : fitE (a * b) = 15 := fitE_out (by rw [hms]; split <;> omega)
    rw [hv, he]
    clear hv he hms
    obtain ⟨p, hpe⟩ : ∃ p : Int, p = ((a.natAbs * b.natAbs : Nat) : Int) / 18446744073709551616 := ⟨_, rfl⟩
    obtain ⟨q, hqe⟩ : ∃ q : Int, q = ((a.natAbs * b.natAbs : Nat) : Int) % 18446744073709551616 := ⟨_, rfl⟩
    have hp1 : 1 ≤ p := by omega
    have hp2 : (p != 0) = true := by rw [bne_iff_ne]; omega
    have HP := Lib.hid hpe
    have HQ := Lib.hid hqe
    clear hpe hqe hp
    go_enter Tryd.func12, Tryd.ntmps12
    go_wp2_with (first
      | (go_at_call 32; refine (mag_any _ _ (by assumption) (by assumption)).mono ?_; rintro e w' ⟨rfl, rfl⟩)
      | (go_at_call 31; refine (mul64_hi _ _ p q (by omega) (by omega) HP.out HQ.out _).mono ?_; rintro e w' ⟨rfl, rfl⟩))
    go_ret2
    exact ⟨rfl, by go_grown⟩

theorem pow10_neg (n : Int) (w : World) (h : n < 0) :
    Calls Tryd.prog 23 #[.int .i64 n] w fun e w' => e = .returned (.tuple #[.int .i64 0, .int .i64 1]) ∧ w = w' := by
  go_enter Tryd.func23, Tryd.ntmps23
  go_wp2
  go_ret2
  exact ⟨rfl, rfl⟩
theorem pow10_over (n : Int) (w : World) (h : 18 < n) :
    Calls Tryd.prog 23 #[.int .i64 n] w fun e w' => e = .returned (.tuple #[.int .i64 0, .int .i64 15]) ∧ w = w' := by
  go_enter Tryd.func23, Tryd.ntmps23
  go_wp2
  go_ret2
  exact ⟨rfl, rfl⟩
def pten (k : Nat) : Int := (10 ^ k : Nat)
theorem pten_succ (k : Nat) : pten (k + 1) = pten k * 10 := by simp [pten, Nat.pow_succ]
theorem pten_pos (k : Nat) : 1 ≤ pten k := by have : 0 < 10 ^ k := Nat.pow_pos (by omega); unfold pten; omega
theorem pten_le {k : Nat} (h : k ≤ 18) : pten k ≤ 1000000000000000000 := by
  have := Nat.pow_le_pow_right (show 0 < 10 by omega) h
  unfold pten
  omega
set_option maxHeartbeats 400000 in
theorem pow10_any (n : Nat) (w : World) (h : n ≤ 18) :
    Calls Tryd.prog 23 #[.int .i64 n] w fun e w' => e = .returned (.tuple #[.int .i64 (pten n), .int .i64 0]) ∧ w = w' := by
  go_enter Tryd.func23, Tryd.ntmps23
  go_wp2
  go_loop [4, 10] (fun p i => ∃ k : Nat, k ≤ n ∧ i = .int .i64 k ∧ p = .int .i64 (pten k)) (fun _ i => n - (intOf i).toNat)
  case atStart => exact ⟨0, Nat.zero_le _, rfl, rfl⟩
  case round =>
    obtain ⟨k, hk, rfl, rfl⟩ := hrel
    have h1 := pten_pos k
    by_cases hlt : k < n
    · have h2 := pten_le (k := k) (by omega)
      have h3 := pten_le (k := k + 1) (by omega)
      have hs := pten_succ k
      rw [hs] at h3
      have HS := Lib.hid hs
      clear hs
      go_wp2
      go_round
      case rel => exact ⟨k + 1, by omega, by go_num, by rw [HS.out]⟩
      case measure => simp [intOf]; omega
    · obtain rfl : k = n := by omega
      go_wp2
      go_ret2
      exact ⟨rfl, rfl⟩

theorem gcd_step (x y : Nat) : Nat.gcd y (x % y) = Nat.gcd x y := by rw [Nat.gcd_comm x y, Nat.gcd_rec y x, Nat.gcd_comm]
set_option maxHeartbeats 400000 in
theorem gcd_any (a b : Int) (w : World) (ha : -9223372036854775808 ≤ a) (ha' : a ≤ 9223372036854775807) (hb : -9223372036854775808 ≤ b) (hb' : b ≤ 9223372036854775807) :
    Calls Tryd.prog 24 #[.int .i64 a, .int .i64 b] w fun e w' => e = .returned (.tuple #[.int .i64 (fitV (Int.gcd a b)), .int .i64 (fitE (Int.gcd a b))]) ∧ ∃ n, w' = w.drewN n := by
  go_enter Tryd.func24, Tryd.ntmps24
  go_wp2_with (go_at_call 32; refine (mag_any _ _ (by assumption) (by assumption)).mono ?_; rintro e w' ⟨rfl, rfl⟩)
  go_loopw [6, 7] (fun x y wr => ∃ p q : Nat, x = .int .u64 p ∧ y = .int .u64 q ∧ Nat.gcd p q = Int.gcd a b ∧ p < 18446744073709551616 ∧ q < 18446744073709551616 ∧ ∃ n, wr = w.drewN n) (fun _ y _ => (intOf y).toNat)
  case atStart => exact ⟨_, _, rfl, rfl, rfl, by omega, by omega, 0, rfl⟩
  case round =>
    obtain ⟨p, q, rfl, rfl, hg, hp, hq, n, rfl⟩ := hrel
    have HG := Lib.hid hg
    clear hg
    by_cases h0 : q = 0
    · subst h0
      have hz : ((0 : Nat) : Int) = 0 := rfl
      have HP : Hid ((p : Int) = Int.gcd a b) := by have := HG.out; rw [Nat.gcd_zero_right] at this; exact congrArg _ this
      clear HG
      go_wp2_with (go_at_call 33; refine (signed_any _ _ _ (by omega) (by omega)).mono ?_; rintro e w' ⟨rfl, rfl⟩)
      go_ret2
      exact ⟨ret_2 (by rw [← HP.out]) (by rw [← HP.out]), _, rfl⟩
    · have hq0 : ((q : Int) != 0) = true := by rw [bne_iff_ne]; omega
      have hq1 : ¬ (q : Int) = 0 := by omega
      go_wp2_with fail
      go_quiet (fail)
      go_roundw
      case rel =>
        have hl := Nat.mod_lt p (show 0 < q by omega)
        refine ⟨_, _, _, _, _, _, _, _, ⟨q, p % q, ?_, ?_, (gcd_step p q).trans HG.out, hq, by omega, _, World.drewN_drewN _ _ _⟩, rfl⟩
        · rfl
        · simp
      case measure =>
        have hl := Nat.mod_lt p (show 0 < q by omega)
        simp [intOf]; omega
end Go.Proofs.YtimahbomndffaaaDoor
