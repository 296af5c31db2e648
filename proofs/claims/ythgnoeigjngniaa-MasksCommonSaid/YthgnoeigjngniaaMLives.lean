/- The law's own small functions (gives, num, bad, lives), each with what it returns. -/
import Derived.Test.YthgnoeigjngniaaMP
namespace Go.Proofs.Ythgnoeigjngniaa
open Go.RowKit

/-- The world of a call that began at w: below w's size nothing has turned. -/
def Ok (w W : World) : Prop := Below w.heap.size w W
theorem Ok.step {w W W' : World} (h : Ok w W) (hb : Below W.heap.size W W') : Ok w W' := Below.trans h (hb.mono (Below.size h))
theorem Ok.refl (w : World) : Ok w w := Below.refl _ _

def numB (n e v : Int) : Bool := decide (n = v ∧ e = 0)
def badB (n e v : Int) : Bool := decide (n = 0 ∧ e = v)
def givesB (n e v : Int) (t : Bool) (b : Int) : Bool := if t then decide (n = v ∧ e = 0) else decide (n = 0 ∧ e = b)
theorem num_any (n e v : Int) (w : World) :
    Calls Try.prog 13 #[.int .i64 n, .int .i64 e, .int .i64 v] w fun x w' => x = .returned (.bool (numB n e v)) ∧ w = w' := by
  by_cases h1 : n = v <;> by_cases h2 : e = 0
  all_goals
    have hr : numB n e v = numB n e v := rfl
    conv at hr => rhs; simp [numB, h1, h2]
    rw [hr]
    have t1 : (n == v) = decide (n = v) := rfl
    have t2 : (e == 0) = decide (e = 0) := rfl
    simp only [h1, h2, decide_true, decide_false] at t1 t2
    clear hr
    first | subst h1 | clear h1
    first | subst h2 | clear h2
    go_enter Try.func13, Try.ntmps13
    go_wp2
    go_ret
    exact ⟨rfl, rfl⟩
theorem bad_any (n e v : Int) (w : World) :
    Calls Try.prog 17 #[.int .i64 n, .int .i64 e, .int .i64 v] w fun x w' => x = .returned (.bool (badB n e v)) ∧ w = w' := by
  by_cases h1 : n = 0 <;> by_cases h2 : e = v
  all_goals
    have hr : badB n e v = badB n e v := rfl
    conv at hr => rhs; simp [badB, h1, h2]
    rw [hr]
    have t1 : (n == 0) = decide (n = 0) := rfl
    have t2 : (e == v) = decide (e = v) := rfl
    simp only [h1, h2, decide_true, decide_false] at t1 t2
    clear hr
    first | subst h1 | clear h1
    first | subst h2 | clear h2
    go_enter Try.func17, Try.ntmps17
    go_wp2
    go_ret
    exact ⟨rfl, rfl⟩
theorem gives_any (n e v : Int) (t : Bool) (b : Int) (w : World) :
    Calls Try.prog 21 #[.int .i64 n, .int .i64 e, .int .i64 v, .bool t, .int .i64 b] w fun x w' => x = .returned (.bool (givesB n e v t b)) ∧ w = w' := by
  cases t
  · by_cases h1 : n = 0 <;> by_cases h2 : e = b
    all_goals
      have hr : givesB n e v false b = givesB n e v false b := rfl
      conv at hr => rhs; simp [givesB, h1, h2]
      rw [hr]
      have t1 : (n == 0) = decide (n = 0) := rfl
      have t2 : (e == b) = decide (e = b) := rfl
      simp only [h1, h2, decide_true, decide_false] at t1 t2
      clear hr
      first | subst h1 | clear h1
      first | subst h2 | clear h2
      go_enter Try.func21, Try.ntmps21
      go_wp2
      go_ret
      exact ⟨rfl, rfl⟩
  · by_cases h1 : n = v <;> by_cases h2 : e = 0
    all_goals
      have hr : givesB n e v true b = givesB n e v true b := rfl
      conv at hr => rhs; simp [givesB, h1, h2]
      rw [hr]
      have t1 : (n == v) = decide (n = v) := rfl
      have t2 : (e == 0) = decide (e = 0) := rfl
      simp only [h1, h2, decide_true, decide_false] at t1 t2
      clear hr
      first | subst h1 | clear h1
      first | subst h2 | clear h2
      go_enter Try.func21, Try.ntmps21
      go_wp2
      go_ret
      exact ⟨rfl, rfl⟩
theorem num_t (n e v : Int) (w : World) (h : n = v) (h' : e = 0) :
    Calls Try.prog 13 #[.int .i64 n, .int .i64 e, .int .i64 v] w fun x w' => x = .returned (.bool true) ∧ w = w' := by
  have : numB n e v = true := by simp [numB, h, h']
  rw [← this]; exact num_any n e v w
theorem bad_t (n e v : Int) (w : World) (h : n = 0) (h' : e = v) :
    Calls Try.prog 17 #[.int .i64 n, .int .i64 e, .int .i64 v] w fun x w' => x = .returned (.bool true) ∧ w = w' := by
  have : badB n e v = true := by simp [badB, h, h']
  rw [← this]; exact bad_any n e v w
theorem gives_t (n e v : Int) (t : Bool) (b : Int) (w : World) (h : givesB n e v t b = true) :
    Calls Try.prog 21 #[.int .i64 n, .int .i64 e, .int .i64 v, .bool t, .int .i64 b] w fun x w' => x = .returned (.bool true) ∧ w = w' := by
  rw [← h]; exact gives_any n e v t b w

/-- The mask of the chapter's examples. -/
def m1 : ByteArray := ⟨#[49, 88, 48, 88]⟩
theorem c_eq {f : FuncId} {args : Array Value} {w W : World} {u v : Value} (h : Ok w W) (hv : u = v)
    (hc : Calls Try.prog f args W fun x w' => x = .returned u ∧ Below W.heap.size W w') :
    Calls Try.prog f args W fun x w' => x = .returned v ∧ Ok w w' := by
  subst hv
  exact hc.mono fun _ _ ⟨h1, h2⟩ => ⟨h1, h.step h2⟩
section
variable {w W : World}
theorem l_count (h : Ok w W) : Calls Try.prog 9 #[.string ⟨#[49, 88, 48, 88]⟩] W fun e w' => e = .returned (.tuple #[.int .i64 100, .int .i64 0]) ∧ Ok w w' := c_eq h (by kernel_rfl) (count_any m1 W (by decide))
theorem l_least (h : Ok w W) : Calls Try.prog 10 #[.string ⟨#[49, 88, 48, 88]⟩] W fun e w' => e = .returned (.tuple #[.int .i64 1000, .int .i64 0]) ∧ Ok w w' := c_eq h (by kernel_rfl) (least_any m1 W (by decide))
theorem l_great (h : Ok w W) : Calls Try.prog 11 #[.string ⟨#[49, 88, 48, 88]⟩] W fun e w' => e = .returned (.tuple #[.int .i64 1909, .int .i64 0]) ∧ Ok w w' := c_eq h (by kernel_rfl) (great_any m1 W (by decide))
theorem l_has (h : Ok w W) : Calls Try.prog 19 #[.string ⟨#[49, 88, 48, 88]⟩, .int .i64 1507] W fun e w' => e = .returned (.bool true) ∧ Ok w w' := c_eq h (by kernel_rfl) (has_any m1 1507 W (by decide) (by omega) (by omega))
theorem l_next1 (h : Ok w W) : Calls Try.prog 24 #[.string ⟨#[49, 88, 48, 88]⟩, .int .i64 1010] W fun e w' => e = .returned (.tuple #[.int .i64 1100, .int .i64 0]) ∧ Ok w w' := c_eq h (by kernel_rfl) (next_any m1 1010 W (by decide) (by omega) (by omega))
theorem l_next2 (h : Ok w W) : Calls Try.prog 24 #[.string ⟨#[49, 88, 48, 88]⟩, .int .i64 1950] W fun e w' => e = .returned (.tuple #[.int .i64 0, .int .i64 16]) ∧ Ok w w' := c_eq h (by kernel_rfl) (next_any m1 1950 W (by decide) (by omega) (by omega))
theorem l_next3 (h : Ok w W) : Calls Try.prog 24 #[.string ⟨#[49, 88, 48, 88]⟩, .int .i64 (-5)] W fun e w' => e = .returned (.tuple #[.int .i64 1000, .int .i64 0]) ∧ Ok w w' := c_eq h (by kernel_rfl) (next_any m1 (-5) W (by decide) (by omega) (by omega))
theorem l_prev (h : Ok w W) : Calls Try.prog 25 #[.string ⟨#[49, 88, 48, 88]⟩, .int .i64 1099] W fun e w' => e = .returned (.tuple #[.int .i64 1009, .int .i64 0]) ∧ Ok w w' := c_eq h (by kernel_rfl) (prev_any m1 1099 W (by decide) (by omega) (by omega))
theorem l_nth1 (h : Ok w W) : Calls Try.prog 16 #[.string ⟨#[49, 88, 48, 88]⟩, .int .i64 37] W fun e w' => e = .returned (.tuple #[.int .i64 1307, .int .i64 0]) ∧ Ok w w' := c_eq h (by kernel_rfl) (nth_any m1 37 W (by decide) (by omega) (by omega))
theorem l_nth2 (h : Ok w W) : Calls Try.prog 16 #[.string ⟨#[49, 88, 48, 88]⟩, .int .i64 100] W fun e w' => e = .returned (.tuple #[.int .i64 0, .int .i64 4]) ∧ Ok w w' := c_eq h (by kernel_rfl) (nth_any m1 100 W (by decide) (by omega) (by omega))
theorem l_index1 (h : Ok w W) : Calls Try.prog 18 #[.string ⟨#[49, 88, 48, 88]⟩, .int .i64 1307] W fun e w' => e = .returned (.tuple #[.int .i64 37, .int .i64 0]) ∧ Ok w w' := c_eq h (by kernel_rfl) (index_any m1 1307 W (by decide) (by omega) (by omega))
theorem l_index2 (h : Ok w W) : Calls Try.prog 18 #[.string ⟨#[49, 88, 48, 88]⟩, .int .i64 1317] W fun e w' => e = .returned (.tuple #[.int .i64 0, .int .i64 16]) ∧ Ok w w' := c_eq h (by kernel_rfl) (index_any m1 1317 W (by decide) (by omega) (by omega))
theorem l_com1 (h : Ok w W) : Calls Try.prog 28 #[.string ⟨#[49, 88, 88]⟩, .string ⟨#[88, 50, 88]⟩] W fun e w' => e = .returned (.tuple #[.string ⟨#[49, 50, 88]⟩, .int .i64 0]) ∧ Ok w w' := c_eq h (by kernel_rfl) (common_any ⟨#[49, 88, 88]⟩ W ⟨#[88, 50, 88]⟩ (by decide) (by decide))
theorem l_com2 (h : Ok w W) : Calls Try.prog 28 #[.string ⟨#[49, 88]⟩, .string ⟨#[50, 88]⟩] W fun e w' => e = .returned (.tuple #[.string ⟨#[]⟩, .int .i64 16]) ∧ Ok w w' := c_eq h (by kernel_rfl) (common_any ⟨#[49, 88]⟩ W ⟨#[50, 88]⟩ (by decide) (by decide))
theorem l_com3 (h : Ok w W) : Calls Try.prog 28 #[.string ⟨#[49]⟩, .string ⟨#[49, 50]⟩] W fun e w' => e = .returned (.tuple #[.string ⟨#[]⟩, .int .i64 1]) ∧ Ok w w' := c_eq h (by kernel_rfl) (common_any ⟨#[49]⟩ W ⟨#[49, 50]⟩ (by decide) (by decide))
theorem l_chk1 (h : Ok w W) : Calls Try.prog 15 #[.string ⟨#[]⟩] W fun e w' => e = .returned (.int .i64 5) ∧ Ok w w' := c_eq h (by kernel_rfl) (check_any ⟨#[]⟩ W (by decide))
theorem l_chk2 (h : Ok w W) : Calls Try.prog 15 #[.string ⟨#[49, 50, 120]⟩] W fun e w' => e = .returned (.int .i64 5) ∧ Ok w w' := c_eq h (by kernel_rfl) (check_any ⟨#[49, 50, 120]⟩ W (by decide))
theorem l_chk3 (h : Ok w W) : Calls Try.prog 15 #[.string ⟨#[49, 49, 49, 49, 49, 49, 49, 49, 49, 49, 49, 49, 49, 49, 49, 49, 49, 49, 49]⟩] W fun e w' => e = .returned (.int .i64 3) ∧ Ok w w' := c_eq h (by kernel_rfl) (check_any ⟨#[49, 49, 49, 49, 49, 49, 49, 49, 49, 49, 49, 49, 49, 49, 49, 49, 49, 49, 49]⟩ W (by decide))
end

set_option maxRecDepth 100000 in
set_option maxHeartbeats 4000000 in
theorem lives_t (w W : World) (h : Ok w W) : Calls Try.prog 23 #[] W fun e w' => e = .returned (.bool true) ∧ Ok w w' := by
  go_enter Try.func23, Try.ntmps23
  go_wp2_with (first
    | (go_at_call 9; refine (l_count (by assumption)).mono ?_; rintro e w' ⟨rfl, hk⟩)
    | (go_at_call 10; refine (l_least (by assumption)).mono ?_; rintro e w' ⟨rfl, hk⟩)
    | (go_at_call 11; refine (l_great (by assumption)).mono ?_; rintro e w' ⟨rfl, hk⟩)
    | (go_at_call 19; refine (l_has (by assumption)).mono ?_; rintro e w' ⟨rfl, hk⟩)
    | (go_at_call 25; refine (l_prev (by assumption)).mono ?_; rintro e w' ⟨rfl, hk⟩)
    | (go_at_call 13; refine (num_t _ _ _ _ (by rfl) (by rfl)).mono ?_; rintro e w' ⟨rfl, rfl⟩)
    | (go_at_call 17; refine (bad_t _ _ _ _ (by rfl) (by rfl)).mono ?_; rintro e w' ⟨rfl, rfl⟩)
    | (go_at_call 24; ((with_reducible refine (l_next1 (by assumption)).mono ?_); rintro e w' ⟨rfl, hk⟩))
    | (go_at_call 24; ((with_reducible refine (l_next2 (by assumption)).mono ?_); rintro e w' ⟨rfl, hk⟩))
    | (go_at_call 24; ((with_reducible refine (l_next3 (by assumption)).mono ?_); rintro e w' ⟨rfl, hk⟩))
    | (go_at_call 16; ((with_reducible refine (l_nth1 (by assumption)).mono ?_); rintro e w' ⟨rfl, hk⟩))
    | (go_at_call 16; ((with_reducible refine (l_nth2 (by assumption)).mono ?_); rintro e w' ⟨rfl, hk⟩))
    | (go_at_call 18; ((with_reducible refine (l_index1 (by assumption)).mono ?_); rintro e w' ⟨rfl, hk⟩))
    | (go_at_call 18; ((with_reducible refine (l_index2 (by assumption)).mono ?_); rintro e w' ⟨rfl, hk⟩))
    | (go_at_call 28; ((with_reducible refine (l_com1 (by assumption)).mono ?_); rintro e w' ⟨rfl, hk⟩))
    | (go_at_call 28; ((with_reducible refine (l_com2 (by assumption)).mono ?_); rintro e w' ⟨rfl, hk⟩))
    | (go_at_call 28; ((with_reducible refine (l_com3 (by assumption)).mono ?_); rintro e w' ⟨rfl, hk⟩))
    | (go_at_call 15; ((with_reducible refine (l_chk1 (by assumption)).mono ?_); rintro e w' ⟨rfl, hk⟩))
    | (go_at_call 15; ((with_reducible refine (l_chk2 (by assumption)).mono ?_); rintro e w' ⟨rfl, hk⟩))
    | (go_at_call 15; ((with_reducible refine (l_chk3 (by assumption)).mono ?_); rintro e w' ⟨rfl, hk⟩)))
  go_ret
  exact ⟨rfl, by assumption⟩
end Go.Proofs.Ythgnoeigjngniaa
