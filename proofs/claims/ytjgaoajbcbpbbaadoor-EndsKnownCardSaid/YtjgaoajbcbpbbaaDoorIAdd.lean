/- ints.Add and ints.Sub over any world, for texts on the calendar (the portable form; strip.py strikes what a seat does not reach). -/
import Derived.Test.YtjgaoajbcbpbbaaDoorQ0
import Derived.Defers
namespace Go.Proofs.YtjgaoajbcbpbbaaDoor
open Go.RowKit

/-- What a sum comes to: itself if it is an int64, otherwise 0; and the error. -/
def fitE (n : Int) : Int := if -9223372036854775808 ≤ n ∧ n ≤ 9223372036854775807 then 0 else 15
theorem fitE_in {n : Int} (h : -9223372036854775808 ≤ n) (h' : n ≤ 9223372036854775807) : fitE n = 0 := if_pos ⟨h, h'⟩
theorem fitE_out {n : Int} (h : n < -9223372036854775808 ∨ 9223372036854775807 < n) : fitE n = 15 := if_neg (by omega)

theorem addd_keep (p q a b : Addr) (s x y : Int) (w : World) (hp : w.cell? p = some (.int .i64 s)) (hq : w.cell? q = some (.int .i64 x)) (ha : w.cell? a = some (.int .i64 y)) (h : s < x ↔ y < 0) :
    CallsD Tryd.prog 46 #[.pointer (some p), .pointer (some q), .pointer (some a), .pointer (some b)] .returning w fun e u' w' => u' = .returning ∧ (e = .returned (.tuple #[]) ∧ w' = w) := by
  by_cases h1 : s < x
  · have h2 := h.1 h1
    clear h
    go_enter_d Tryd.func46, Tryd.ntmps46
    go_wp2
    go_end0
    exact ⟨rfl, rfl⟩
  · have h2 : ¬ y < 0 := fun h' => h1 (h.2 h')
    clear h
    go_enter_d Tryd.func46, Tryd.ntmps46
    go_wp2
    go_end0
    exact ⟨rfl, rfl⟩

theorem addd_turn (p q a b : Addr) (s x y z : Int) (w : World) (hp : w.cell? p = some (.int .i64 s)) (hq : w.cell? q = some (.int .i64 x)) (ha : w.cell? a = some (.int .i64 y)) (hb : w.cell? b = some (.int .i64 z))
    (fp : w.frozen? p = false) (fb : w.frozen? b = false) (hpb : b ≠ p) (h : s < x ↔ ¬ y < 0) :
    CallsD Tryd.prog 46 #[.pointer (some p), .pointer (some q), .pointer (some a), .pointer (some b)] .returning w fun e u' w' => u' = .returning ∧ (e = .returned (.tuple #[]) ∧ w' = (w.setCell p (.int .i64 0)).setCell b (.int .i64 15)) := by
  have hb1 := (World.cell?_setCell_other w p b (.int .i64 0) (Ne.symm hpb)).trans hb
  by_cases h1 : s < x
  · have h2 := h.1 h1
    clear h
    go_enter_d Tryd.func46, Tryd.ntmps46
    go_wp2
    go_end0
    exact ⟨rfl, rfl⟩
  · have h2 : y < 0 := by
      by_cases h3 : y < 0
      · exact h3
      · exact absurd (h.2 h3) h1
    clear h
    go_enter_d Tryd.func46, Tryd.ntmps46
    go_wp2
    go_end0
    exact ⟨rfl, rfl⟩

theorem wrap64_over {n : Int} (h : 9223372036854775807 < n) (h' : n < 18446744073709551616) : wrap64 n = n - 18446744073709551616 := by go_arith
theorem wrap64_under {n : Int} (h : n < -9223372036854775808) (h' : -18446744073709551616 ≤ n) : wrap64 n = n + 18446744073709551616 := by go_arith
theorem turn_add {a b : Int} (ha : -9223372036854775808 ≤ a) (ha' : a ≤ 9223372036854775807) (hb : -9223372036854775808 ≤ b) (hb' : b ≤ 9223372036854775807)
    (h : ¬ (-9223372036854775808 ≤ a + b ∧ a + b ≤ 9223372036854775807)) : wrap64 (a + b) < a ↔ ¬ b < 0 := by
  by_cases h0 : 9223372036854775807 < a + b
  · rw [wrap64_over h0 (by omega)]; omega
  · rw [wrap64_under (by omega) (by omega)]; omega
theorem turn_sub {a b : Int} (ha : -9223372036854775808 ≤ a) (ha' : a ≤ 9223372036854775807) (hb : -9223372036854775808 ≤ b) (hb' : b ≤ 9223372036854775807)
    (h : ¬ (-9223372036854775808 ≤ a - b ∧ a - b ≤ 9223372036854775807)) : wrap64 (a - b) < a ↔ ¬ 0 < b := by
  by_cases h0 : 9223372036854775807 < a - b
  · rw [wrap64_over h0 (by omega)]; omega
  · rw [wrap64_under (by omega) (by omega)]; omega

set_option maxHeartbeats 400000 in
theorem add_any (a b : Int) (w : World) (ha : -9223372036854775808 ≤ a) (ha' : a ≤ 9223372036854775807) (hb : -9223372036854775808 ≤ b) (hb' : b ≤ 9223372036854775807) :
    Calls Tryd.prog 40 #[.int .i64 a, .int .i64 b] w fun e w' => e = .returned (.tuple #[.int .i64 (fitV (a + b)), .int .i64 (fitE (a + b))]) ∧ Below w.heap.size w w' := by
  have hmf : ∀ (fn : Fn) (first cap : Array Value) (w : World), (Instr.makeFunc fn first cap).run Tryd.prog w = .ok (.func fn first cap) w := fun _ _ _ _ => rfl
  by_cases h : -9223372036854775808 ≤ a + b ∧ a + b ≤ 9223372036854775807
  · obtain ⟨h1, h2⟩ := h
    go_enter_defers Tryd.func40, Tryd.ntmps40
    go_wp2
    refine leaves_cons (f := 46) (by simp) (by simp [go_sem]; rfl) ?_
    refine (addd_keep _ _ _ _ (a + b) a b _ ?_ ?_ ?_ (by omega)).mono ?_
    · simp [go_sem]
    · simp [go_sem]
    · simp [go_sem]
    rintro e u' w'' ⟨rfl, rfl, rfl⟩
    simp [Leaves, settle, results, Tryd.results40, go_sem, fitV_in h1 h2, fitE_in h1 h2]
    go_grown
  · have ht := turn_add ha ha' hb hb' h
    have hv : fitV (a + b) = 0 := fitV_out (by omega)
    have he : fitE (a + b) = 15 := fitE_out (by omega)
    rw [hv, he]
    clear hv he
    go_enter_defers Tryd.func40, Tryd.ntmps40
    go_wp2
    refine leaves_cons (f := 46) (by simp) (by simp [go_sem]; rfl) ?_
    refine (addd_turn _ _ _ _ (wrap64 (a + b)) a b 0 _ ?_ ?_ ?_ ?_ ?_ ?_ ?_ (by omega)).mono ?_
    · simp [go_sem]
    · simp [go_sem]
    · simp [go_sem]
    · simp [go_sem]
    · simp [go_sem]
    · simp [go_sem]
    · simp
    rintro e u' w'' ⟨rfl, rfl, rfl⟩
    simp [Leaves, settle, results, Tryd.results40, go_sem]
    go_grown
end Go.Proofs.YtjgaoajbcbpbbaaDoor
