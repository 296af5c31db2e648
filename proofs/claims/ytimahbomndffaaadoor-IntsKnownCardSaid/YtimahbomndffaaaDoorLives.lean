/- The laws' own small functions (gives, fails, lives), each with what it returns. -/
import Derived.Test.YtimahbomndffaaaDoorText
namespace Go.Proofs.YtimahbomndffaaaDoor
open Go.RowKit

def givesB (n e v : Int) : Bool := decide (n = v ∧ e = 0)
def failsB (n e v : Int) : Bool := decide (n = 0 ∧ e = v)
theorem gives_any (n e v : Int) (w : World) :
    Calls Tryd.prog 17 #[.int .i64 n, .int .i64 e, .int .i64 v] w fun x w' => x = .returned (.bool (givesB n e v)) ∧ w = w' := by
  by_cases h1 : n = v <;> by_cases h2 : e = 0
  all_goals
    have hr : givesB n e v = givesB n e v := rfl
    conv at hr => rhs; simp [givesB, h1, h2]
    rw [hr]
    have t1 : (n == v) = decide (n = v) := rfl
    have t2 : (e == 0) = decide (e = 0) := rfl
    simp only [h1, h2, decide_true, decide_false] at t1 t2
    clear hr
    first | subst h1 | clear h1
    first | subst h2 | clear h2
    go_enter Tryd.func17, Tryd.ntmps17
    go_wp2
    go_ret
    exact ⟨rfl, rfl⟩
theorem fails_any (n e v : Int) (w : World) :
    Calls Tryd.prog 21 #[.int .i64 n, .int .i64 e, .int .i64 v] w fun x w' => x = .returned (.bool (failsB n e v)) ∧ w = w' := by
  by_cases h1 : n = 0 <;> by_cases h2 : e = v
  all_goals
    have hr : failsB n e v = failsB n e v := rfl
    conv at hr => rhs; simp [failsB, h1, h2]
    rw [hr]
    have t1 : (n == 0) = decide (n = 0) := rfl
    have t2 : (e == v) = decide (e = v) := rfl
    simp only [h1, h2, decide_true, decide_false] at t1 t2
    clear hr
    first | subst h1 | clear h1
    first | subst h2 | clear h2
    go_enter Tryd.func21, Tryd.ntmps21
    go_wp2
    go_ret
    exact ⟨rfl, rfl⟩
theorem gives_t (n : Int) (w : World) :
    Calls Tryd.prog 17 #[.int .i64 n, .int .i64 0, .int .i64 n] w fun x w' => x = .returned (.bool true) ∧ w = w' := by
  have h : givesB n 0 n = true := by simp [givesB]
  rw [← h]; exact gives_any n 0 n w
theorem fails_t (e : Int) (w : World) :
    Calls Tryd.prog 21 #[.int .i64 0, .int .i64 e, .int .i64 e] w fun x w' => x = .returned (.bool true) ∧ w = w' := by
  have h : failsB 0 e e = true := by simp [failsB]
  rw [← h]; exact fails_any 0 e e w

/-- The world of a call that began at w: what the start has laid is there, and below w's size nothing has turned. -/
def Ok (w W : World) : Prop := Start W ∧ Below w.heap.size w W
theorem Ok.step {w W W' : World} (h : Ok w W) (hb : Below W.heap.size W W') : Ok w W' := ⟨h.1.below hb, h.2.trans (hb.mono h.2.size)⟩
theorem Ok.refl {w : World} (h : Start w) : Ok w w := ⟨h, Below.refl _ _⟩
theorem Ok.drewN {w W : World} (h : Ok w W) (n : Nat) : Ok w (W.drewN n) := h.step (below_drewN (Below.refl _ _) n)

theorem calls_fit {f : FuncId} {args : Array Value} {w W : World} {n v e : Int} (h : Ok w W) (hv : fitV n = v) (he : fitE n = e)
    (hc : Calls Tryd.prog f args W fun x w' => x = .returned (.tuple #[.int .i64 (fitV n), .int .i64 (fitE n)]) ∧ Below W.heap.size W w') :
    Calls Tryd.prog f args W fun x w' => x = .returned (.tuple #[.int .i64 v, .int .i64 e]) ∧ Ok w w' := by
  subst hv he
  exact hc.mono fun _ _ ⟨h1, h2⟩ => ⟨h1, h.step h2⟩
theorem calls_same {f : FuncId} {args : Array Value} {w W : World} {n m v e : Int} (h : Ok w W) (hv : n = v) (he : m = e)
    (hc : Calls Tryd.prog f args W fun x w' => x = .returned (.tuple #[.int .i64 n, .int .i64 m]) ∧ W = w') :
    Calls Tryd.prog f args W fun x w' => x = .returned (.tuple #[.int .i64 v, .int .i64 e]) ∧ Ok w w' := by
  subst hv he
  exact hc.mono fun _ _ ⟨h1, h2⟩ => ⟨h1, h2 ▸ h⟩
section
variable {w W : World}
theorem l_add (h : Ok w W) : Calls Tryd.prog 10 #[.int .i64 9223372036854775807, .int .i64 1] W fun e w' => e = .returned (.tuple #[.int .i64 0, .int .i64 15]) ∧ Ok w w' :=
  calls_fit h (fitV_out (by omega)) (fitE_out (by omega)) (add_any _ _ W (by omega) (by omega) (by omega) (by omega))
theorem l_sub (h : Ok w W) : Calls Tryd.prog 11 #[.int .i64 (-9223372036854775808), .int .i64 1] W fun e w' => e = .returned (.tuple #[.int .i64 0, .int .i64 15]) ∧ Ok w w' :=
  calls_fit h (fitV_out (by omega)) (fitE_out (by omega)) (sub_any _ _ W (by omega) (by omega) (by omega) (by omega))
theorem l_mul (h : Ok w W) : Calls Tryd.prog 12 #[.int .i64 4294967296, .int .i64 2147483648] W fun e w' => e = .returned (.tuple #[.int .i64 0, .int .i64 15]) ∧ Ok w w' :=
  calls_fit h (fitV_out (by omega)) (fitE_out (by omega)) (mul_any _ _ W (by omega) (by omega) (by omega) (by omega))
theorem l_div1 (h : Ok w W) : Calls Tryd.prog 19 #[.int .i64 (-7), .int .i64 2] W fun e w' => e = .returned (.tuple #[.int .i64 (-4), .int .i64 0]) ∧ Ok w w' :=
  calls_same h (by decide) rfl (div_any _ _ W (by omega) (by omega) (by omega) (by omega))
theorem l_mod1 (h : Ok w W) : Calls Tryd.prog 20 #[.int .i64 (-7), .int .i64 2] W fun e w' => e = .returned (.tuple #[.int .i64 1, .int .i64 0]) ∧ Ok w w' :=
  calls_same h (by decide) rfl (mod_any _ _ W (by omega) (by omega) (by omega))
theorem l_div2 (h : Ok w W) : Calls Tryd.prog 19 #[.int .i64 7, .int .i64 (-2)] W fun e w' => e = .returned (.tuple #[.int .i64 (-4), .int .i64 0]) ∧ Ok w w' :=
  calls_same h (by decide) rfl (div_any _ _ W (by omega) (by omega) (by omega) (by omega))
theorem l_mod2 (h : Ok w W) : Calls Tryd.prog 20 #[.int .i64 7, .int .i64 (-2)] W fun e w' => e = .returned (.tuple #[.int .i64 (-1), .int .i64 0]) ∧ Ok w w' :=
  calls_same h (by decide) rfl (mod_any _ _ W (by omega) (by omega) (by omega))
theorem l_div3 (h : Ok w W) : Calls Tryd.prog 19 #[.int .i64 1, .int .i64 0] W fun e w' => e = .returned (.tuple #[.int .i64 0, .int .i64 1]) ∧ Ok w w' :=
  calls_same h rfl rfl (div_nil _ W)
theorem l_mod3 (h : Ok w W) : Calls Tryd.prog 20 #[.int .i64 (-9223372036854775808), .int .i64 (-1)] W fun e w' => e = .returned (.tuple #[.int .i64 0, .int .i64 0]) ∧ Ok w w' :=
  calls_same h (by decide +kernel) rfl (mod_any _ _ W (by omega) (by omega) (by omega))
theorem l_pow1 (h : Ok w W) : Calls Tryd.prog 23 #[.int .i64 18] W fun e w' => e = .returned (.tuple #[.int .i64 1000000000000000000, .int .i64 0]) ∧ Ok w w' :=
  calls_same h (by decide +kernel) rfl (pow10_any 18 W (by omega))
theorem l_pow2 (h : Ok w W) : Calls Tryd.prog 23 #[.int .i64 19] W fun e w' => e = .returned (.tuple #[.int .i64 0, .int .i64 15]) ∧ Ok w w' :=
  calls_same h rfl rfl (pow10_over _ W (by omega))
theorem l_gcd1 (h : Ok w W) : Calls Tryd.prog 24 #[.int .i64 (-12), .int .i64 18] W fun e w' => e = .returned (.tuple #[.int .i64 6, .int .i64 0]) ∧ Ok w w' := by
  refine (gcd_any _ _ W (by omega) (by omega) (by omega) (by omega)).mono ?_
  rintro e w' ⟨rfl, n, rfl⟩
  exact ⟨ret_2 (by decide +kernel) (by decide +kernel), h.drewN n⟩
theorem l_gcd2 (h : Ok w W) : Calls Tryd.prog 24 #[.int .i64 0, .int .i64 0] W fun e w' => e = .returned (.tuple #[.int .i64 0, .int .i64 0]) ∧ Ok w w' := by
  refine (gcd_any _ _ W (by omega) (by omega) (by omega) (by omega)).mono ?_
  rintro e w' ⟨rfl, n, rfl⟩
  exact ⟨ret_2 (by decide +kernel) (by decide +kernel), h.drewN n⟩
theorem l_parse1 (h : Ok w W) : Calls Tryd.prog 26 #[.string ⟨#[45, 57, 50, 50, 51, 51, 55, 50, 48, 51, 54, 56, 53, 52, 55, 55, 53, 56, 48, 56]⟩] W fun e w' => e = .returned (.tuple #[.int .i64 (-9223372036854775808), .int .i64 0]) ∧ Ok w w' :=
  calls_fit h (by decide +kernel) (by decide +kernel) (parse_any _ W (by decide +kernel) h.1 (by decide +kernel))
theorem l_parse2 (h : Ok w W) : Calls Tryd.prog 26 #[.string ⟨#[57, 50, 50, 51, 51, 55, 50, 48, 51, 54, 56, 53, 52, 55, 55, 53, 56, 48, 56]⟩] W fun e w' => e = .returned (.tuple #[.int .i64 0, .int .i64 15]) ∧ Ok w w' :=
  calls_fit h (by decide +kernel) (by decide +kernel) (parse_any _ W (by decide +kernel) h.1 (by decide +kernel))
theorem l_parse3 (h : Ok w W) : Calls Tryd.prog 26 #[.string ⟨#[45, 48]⟩] W fun e w' => e = .returned (.tuple #[.int .i64 0, .int .i64 5]) ∧ Ok w w' :=
  (parse_bad _ W (by decide +kernel) (by decide +kernel)).mono fun _ _ ⟨h1, h2⟩ => ⟨h1, h.step h2⟩
theorem l_parse4 (h : Ok w W) : Calls Tryd.prog 26 #[.string ⟨#[48, 48, 55]⟩] W fun e w' => e = .returned (.tuple #[.int .i64 0, .int .i64 5]) ∧ Ok w w' :=
  (parse_bad _ W (by decide +kernel) (by decide +kernel)).mono fun _ _ ⟨h1, h2⟩ => ⟨h1, h.step h2⟩
end

set_option maxRecDepth 100000 in
set_option maxHeartbeats 1000000 in
theorem lives_t (w W : World) (h : Ok w W) : Calls Tryd.prog 18 #[] W fun e w' => e = .returned (.bool true) ∧ Ok w w' := by
  go_enter Tryd.func18, Tryd.ntmps18
  go_wp2_with (first
    | (go_at_call 10; refine (l_add (by assumption)).mono ?_; rintro e w' ⟨rfl, hk⟩)
    | (go_at_call 11; refine (l_sub (by assumption)).mono ?_; rintro e w' ⟨rfl, hk⟩)
    | (go_at_call 12; refine (l_mul (by assumption)).mono ?_; rintro e w' ⟨rfl, hk⟩)
    | (go_at_call 21; refine (fails_t _ _).mono ?_; rintro e w' ⟨rfl, rfl⟩)
    | (go_at_call 17; refine (gives_t _ _).mono ?_; rintro e w' ⟨rfl, rfl⟩)
    | (go_at_call 19; ((with_reducible refine (l_div1 (by assumption)).mono ?_); rintro e w' ⟨rfl, hk⟩))
    | (go_at_call 20; ((with_reducible refine (l_mod1 (by assumption)).mono ?_); rintro e w' ⟨rfl, hk⟩))
    | (go_at_call 19; ((with_reducible refine (l_div2 (by assumption)).mono ?_); rintro e w' ⟨rfl, hk⟩))
    | (go_at_call 20; ((with_reducible refine (l_mod2 (by assumption)).mono ?_); rintro e w' ⟨rfl, hk⟩))
    | (go_at_call 19; ((with_reducible refine (l_div3 (by assumption)).mono ?_); rintro e w' ⟨rfl, hk⟩))
    | (go_at_call 20; ((with_reducible refine (l_mod3 (by assumption)).mono ?_); rintro e w' ⟨rfl, hk⟩))
    | (go_at_call 23; ((with_reducible refine (l_pow1 (by assumption)).mono ?_); rintro e w' ⟨rfl, hk⟩))
    | (go_at_call 23; ((with_reducible refine (l_pow2 (by assumption)).mono ?_); rintro e w' ⟨rfl, hk⟩))
    | (go_at_call 24; ((with_reducible refine (l_gcd1 (by assumption)).mono ?_); rintro e w' ⟨rfl, hk⟩))
    | (go_at_call 24; ((with_reducible refine (l_gcd2 (by assumption)).mono ?_); rintro e w' ⟨rfl, hk⟩))
    | (go_at_call 26; ((with_reducible refine (l_parse1 (by assumption)).mono ?_); rintro e w' ⟨rfl, hk⟩))
    | (go_at_call 26; ((with_reducible refine (l_parse2 (by assumption)).mono ?_); rintro e w' ⟨rfl, hk⟩))
    | (go_at_call 26; ((with_reducible refine (l_parse3 (by assumption)).mono ?_); rintro e w' ⟨rfl, hk⟩))
    | (go_at_call 26; ((with_reducible refine (l_parse4 (by assumption)).mono ?_); rintro e w' ⟨rfl, hk⟩)))
  go_ret
  exact ⟨rfl, by assumption⟩
end Go.Proofs.YtimahbomndffaaaDoor
