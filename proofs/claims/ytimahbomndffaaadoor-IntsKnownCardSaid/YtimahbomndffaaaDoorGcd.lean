/- The law IntsGcd: it returns true for every input. -/
import Derived.Test.YtimahbomndffaaaDoorLives
import Derived.Deep.CutRange
import Derived.Deep.DeepCutAuto
import Derived.Deep.CutBlock
namespace Go.Proofs.YtimahbomndffaaaDoor
open Go.RowKit

def powV (n : Int) : Int := if 0 ≤ n ∧ n ≤ 18 then pten n.toNat else 0
def powE (n : Int) : Int := if n < 0 then 1 else if 18 < n then 15 else 0
theorem pow_any (n : Int) (w : World) :
    Calls Tryd.prog 23 #[.int .i64 n] w fun e w' => e = .returned (.tuple #[.int .i64 (powV n), .int .i64 (powE n)]) ∧ w = w' := by
  by_cases h1 : n < 0
  · rw [powV, powE, if_neg (by omega), if_pos h1]; exact pow10_neg n w h1
  · by_cases h2 : 18 < n
    · rw [powV, powE, if_neg (by omega), if_neg h1, if_pos h2]; exact pow10_over n w h2
    · rw [powV, powE, if_pos (by omega), if_neg h1, if_neg h2]
      obtain ⟨k, rfl⟩ := Int.eq_ofNat_of_zero_le (show 0 ≤ n by omega)
      rw [Int.toNat_natCast]; exact pow10_any k w (by omega)

theorem gcdv (a b g e : Int) (w : World) (ha : -9223372036854775808 ≤ a) (ha' : a ≤ 9223372036854775807) (hb : -9223372036854775808 ≤ b) (hb' : b ≤ 9223372036854775807)
    (hg : fitV (Int.gcd a b) = g) (he : fitE (Int.gcd a b) = e) :
    Calls Tryd.prog 24 #[.int .i64 a, .int .i64 b] w fun x w' => x = .returned (.tuple #[.int .i64 g, .int .i64 e]) ∧ ∃ n, w' = w.drewN n := by
  subst hg he; exact gcd_any a b w ha ha' hb hb'

set_option maxRecDepth 100000 in
set_option maxHeartbeats 8000000 in
theorem gcd_law (a b n : Int) (w W : World) (ha : -9223372036854775808 ≤ a) (ha' : a ≤ 9223372036854775807) (hb : -9223372036854775808 ≤ b) (hb' : b ≤ 9223372036854775807) (_hn : -9223372036854775808 ≤ n) (_hn' : n ≤ 9223372036854775807) (h : Ok w W) :
    Calls Tryd.prog 5 #[.int .i64 a, .int .i64 b, .int .i64 n] W fun e w' => e = .returned (.bool true) ∧ Ok w w' := by
  go_enter Tryd.func5, Tryd.ntmps5
  go_upto_block 0 with (go_at_call 23; refine (pow_any _ _).mono ?_; rintro e w' ⟨rfl, rfl⟩)
  go_cut [] (fun wx => wx = W)
  case first =>
    by_cases h1 : n < 0
    · have hf : failsB (powV n) (powE n) 1 = true := by rw [powV, powE, if_neg (by omega), if_pos h1]; rfl
      go_wp2_with (go_at_call 21; refine (fails_any _ _ _ _).mono ?_; rintro e w' ⟨rfl, rfl⟩)
      go_meet
      exact rfl
    · by_cases h2 : 18 < n
      · have hf : failsB (powV n) (powE n) 15 = true := by rw [powV, powE, if_neg (by omega), if_neg h1, if_pos h2]; rfl
        go_wp2_with (go_at_call 21; refine (fails_any _ _ _ _).mono ?_; rintro e w' ⟨rfl, rfl⟩)
        go_meet
        exact rfl
      · obtain ⟨m, rfl⟩ := Int.eq_ofNat_of_zero_le (show 0 ≤ n by omega)
        have hf : givesB (powV m) (powE m) (pten m) = true := by rw [powV, powE, if_pos (by omega), if_neg h1, if_neg h2, Int.toNat_natCast]; simp [givesB]
        go_wp2_with fail
        go_loop [9, 10] (fun p i => ∃ k : Nat, k ≤ m ∧ i = .int .i64 k ∧ p = .int .i64 (pten k)) (fun _ i => m - (intOf i).toNat)
        case atStart => exact ⟨0, Nat.zero_le _, rfl, rfl⟩
        case round =>
          obtain ⟨k, hk, rfl, rfl⟩ := hrel
          have g1 := pten_pos k
          by_cases hlt : k < m
          · have g2 := pten_le (k := k) (by omega)
            have g3 := pten_le (k := k + 1) (by omega)
            have hs := pten_succ k
            rw [hs] at g3
            have HS := Lib.hid hs
            clear hs hf
            go_wp2_with fail
            go_round
            case rel => exact ⟨k + 1, by omega, by go_num, by rw [HS.out]⟩
            case measure => simp [intOf]; omega
          · obtain rfl : k = m := by omega
            go_wp2_with (go_at_call 17; refine (gives_any _ _ _ _).mono ?_; rintro e w' ⟨rfl, rfl⟩)
            go_meet
            exact rfl
  case rest =>
    obtain rfl := hcut
    have hcm : Int.gcd b a = Int.gcd a b := Int.gcd_comm b a
    by_cases hO : (a = -9223372036854775808 ∨ a = 0) ∧ (b = -9223372036854775808 ∨ b = 0) ∧ (a ≠ 0 ∨ b ≠ 0)
    · have hg := gcd_over hO
      have G1 : ∀ W, Calls Tryd.prog 24 #[.int .i64 a, .int .i64 b] W fun x w' => x = .returned (.tuple #[.int .i64 0, .int .i64 15]) ∧ ∃ n, w' = W.drewN n :=
        fun W => gcdv a b 0 15 W ha ha' hb hb' (fitV_out (by omega)) (fitE_out (by omega))
      have G2 : ∀ W, Calls Tryd.prog 24 #[.int .i64 b, .int .i64 a] W fun x w' => x = .returned (.tuple #[.int .i64 0, .int .i64 15]) ∧ ∃ n, w' = W.drewN n :=
        fun W => gcdv b a 0 15 W hb hb' ha ha' (fitV_out (by omega)) (fitE_out (by omega))
      have HG1 := Lib.hid G1
      have HG2 := Lib.hid G2
      clear G1 G2 hg hcm
      obtain ⟨rfl | rfl, rfl | rfl, h3⟩ := hO
      rotate_left 3
      · omega
      all_goals
        clear h3
        go_wp2_with (first
          | (go_at_call 24; ((with_reducible refine (HG1.out _).mono ?_); rintro e w' ⟨rfl, n1, rfl⟩))
          | (go_at_call 24; ((with_reducible refine (HG2.out _).mono ?_); rintro e w' ⟨rfl, n1, rfl⟩))
          | (go_at_call 21; refine (fails_t _ _).mono ?_; rintro e w' ⟨rfl, rfl⟩)
          | (go_at_call 18; refine (lives_t w _ (h.drewN _)).mono ?_; rintro e w' ⟨rfl, hk⟩))
        go_ret
        exact ⟨rfl, hk⟩
    · have hin := gcd_in ha ha' hb hb' hO
      by_cases hZ : a = 0 ∧ b = 0
      · obtain ⟨rfl, rfl⟩ := hZ
        have G1 : ∀ W, Calls Tryd.prog 24 #[.int .i64 0, .int .i64 0] W fun x w' => x = .returned (.tuple #[.int .i64 0, .int .i64 0]) ∧ ∃ n, w' = W.drewN n :=
          fun W => gcdv 0 0 0 0 W ha ha' hb hb' (by decide) (by decide)
        have HG1 := Lib.hid G1
        clear G1 hin hcm hO
        go_wp2_with (first
          | (go_at_call 24; ((with_reducible refine (HG1.out _).mono ?_); rintro e w' ⟨rfl, n1, rfl⟩))
          | (go_at_call 18; refine (lives_t w _ (h.drewN _)).mono ?_; rintro e w' ⟨rfl, hk⟩))
        go_ret
        exact ⟨rfl, hk⟩
      · have hlo := gcd_lo (a := a) (b := b) (by omega)
        have hone := gcd_one (a := a) (b := b) (by omega)
        obtain ⟨hm1, hm2⟩ := gcd_tmod (a := a) (b := b)
        have t1 := tdiv_abs a (Int.gcd a b)
        have t2 := tdiv_abs b (Int.gcd a b)
        have G1 : ∀ W, Calls Tryd.prog 24 #[.int .i64 a, .int .i64 b] W fun x w' => x = .returned (.tuple #[.int .i64 (Int.gcd a b), .int .i64 0]) ∧ ∃ n, w' = W.drewN n :=
          fun W => gcdv a b _ 0 W ha ha' hb hb' (fitV_in (by omega) (by omega)) (fitE_in (by omega) (by omega))
        have G2 : ∀ W, Calls Tryd.prog 24 #[.int .i64 b, .int .i64 a] W fun x w' => x = .returned (.tuple #[.int .i64 (Int.gcd a b), .int .i64 0]) ∧ ∃ n, w' = W.drewN n :=
          fun W => gcdv b a _ 0 W hb hb' ha ha' (by rw [hcm]; exact fitV_in (by omega) (by omega)) (by rw [hcm]; exact fitE_in (by omega) (by omega))
        have b1 := tdiv_bd (b := Int.gcd a b) ha ha' (by omega)
        have b2 := tdiv_bd (b := Int.gcd a b) hb hb' (by omega)
        generalize hgg : (Int.gcd a b : Int) = g at *
        obtain ⟨x, hx⟩ : ∃ x, x = a.tdiv g := ⟨_, rfl⟩
        obtain ⟨y, hy⟩ : ∃ y, y = b.tdiv g := ⟨_, rfl⟩
        rw [← hx] at hone t1 b1
        rw [← hy] at hone t2 b2
        have G3 : ∀ W, Calls Tryd.prog 24 #[.int .i64 x, .int .i64 y] W fun e w' => e = .returned (.tuple #[.int .i64 1, .int .i64 0]) ∧ ∃ n, w' = W.drewN n :=
          fun W => gcdv x y 1 0 W b1.1 b1.2 b2.1 b2.2 (by rw [hone]; decide) (by rw [hone]; decide)
        have w1 : IntKind.i64.wrap (a.tdiv g) = x := by rw [← hx]; exact IntWalk.i64_in _ b1
        have w2 : IntKind.i64.wrap (b.tdiv g) = y := by rw [← hy]; exact IntWalk.i64_in _ b2
        have p1 : (a.tmod g == 0) = true := by rw [hm1]; rfl
        have p2 : (b.tmod g == 0) = true := by rw [hm2]; rfl
        have p3 : (g == 0) = false := by rw [beq_eq_false_iff_ne]; omega
        have p4 : ¬ g = 0 := by omega
        have HG1 : Hid (∀ W, Ok w W → Calls Tryd.prog 24 #[.int .i64 a, .int .i64 b] W fun e w' => e = .returned (.tuple #[.int .i64 g, .int .i64 0]) ∧ Ok w w') :=
          fun W hW => (G1 W).mono fun _ _ ⟨h1, n, h2⟩ => ⟨h1, h2 ▸ hW.drewN n⟩
        have HG2 : Hid (∀ W, Ok w W → Calls Tryd.prog 24 #[.int .i64 b, .int .i64 a] W fun e w' => e = .returned (.tuple #[.int .i64 g, .int .i64 0]) ∧ Ok w w') :=
          fun W hW => (G2 W).mono fun _ _ ⟨h1, n, h2⟩ => ⟨h1, h2 ▸ hW.drewN n⟩
        have HG3 := Lib.hid G3
        have HO := Lib.hid hO
        have HZ := Lib.hid hZ
        clear G1 G2 G3 hx hy hone hm1 hm2 t1 t2 b1 b2 hcm hgg hO hZ
        rcases Bool.eq_false_or_eq_true (a == -9223372036854775808) with c1 | c1 <;> rcases Bool.eq_false_or_eq_true (a == 0) with c2 | c2 <;> rcases Bool.eq_false_or_eq_true (b == -9223372036854775808) with c3 | c3 <;> rcases Bool.eq_false_or_eq_true (b == 0) with c4 | c4
        all_goals
          have d1 := c1
          have d2 := c2
          have d3 := c3
          have d4 := c4
          simp only [beq_iff_eq, beq_eq_false_iff_ne, ne_eq] at d1 d2 d3 d4
          first
          | (exfalso; omega)
          | (exfalso; exact HZ.out ⟨d2, d4⟩)
          | (exfalso; exact HO.out ⟨by omega, by omega, by omega⟩)
          | skip
        all_goals
          have c5 : (a != 0) = !(a == 0) := rfl
          have c6 : (b != 0) = !(b == 0) := rfl
          rw [c2] at c5
          rw [c4] at c6
          simp only [Bool.not_true, Bool.not_false] at c5 c6
          clear d1 d2 d3 d4
          go_wp2_with (first
            | (go_at_call 24; ((with_reducible refine (HG1.out _ (by assumption)).mono ?_); rintro e w' ⟨rfl, hk⟩))
            | (go_at_call 24; ((with_reducible refine (HG2.out _ (by assumption)).mono ?_); rintro e w' ⟨rfl, hk⟩)))
          go_quiet ((go_at_call 24; exact Calls.quiet_of (HG3.out _)))
          go_wp2_with (first
            | (go_at_call 17; refine (gives_t _ _).mono ?_; rintro e w' ⟨rfl, rfl⟩)
            | (go_at_call 18; refine (lives_t w _ (Ok.drewN (by assumption) _)).mono ?_; rintro e w' ⟨rfl, hk⟩))
          go_ret
          exact ⟨rfl, hk⟩
end Go.Proofs.YtimahbomndffaaaDoor
