/- The functions of package ints that only reckon with numbers, each with what it returns: contracts over any world. -/
import Derived.Test.YtimahbomndffaaaDoorRows
import Derived.WalkKit
import Derived.WalkSpells
import Derived.WalkLawsBesides
import Derived.Handy
import Derived.Defers
namespace Go.Proofs.YtimahbomndffaaaDoor
open Go.RowKit

/-- What a sum comes to: itself if it is an int64, otherwise 0; and the error. -/
def fitV (n : Int) : Int := if -9223372036854775808 ≤ n ∧ n ≤ 9223372036854775807 then n else 0
def fitE (n : Int) : Int := if -9223372036854775808 ≤ n ∧ n ≤ 9223372036854775807 then 0 else 15
theorem fitV_in {n : Int} (h : -9223372036854775808 ≤ n) (h' : n ≤ 9223372036854775807) : fitV n = n := if_pos ⟨h, h'⟩
theorem fitE_in {n : Int} (h : -9223372036854775808 ≤ n) (h' : n ≤ 9223372036854775807) : fitE n = 0 := if_pos ⟨h, h'⟩
theorem fitV_out {n : Int} (h : n < -9223372036854775808 ∨ 9223372036854775807 < n) : fitV n = 0 := if_neg (by omega)
theorem fitE_out {n : Int} (h : n < -9223372036854775808 ∨ 9223372036854775807 < n) : fitE n = 15 := if_neg (by omega)

theorem addd_keep (p q a b : Addr) (s x y : Int) (w : World) (hp : w.cell? p = some (.int .i64 s)) (hq : w.cell? q = some (.int .i64 x)) (ha : w.cell? a = some (.int .i64 y)) (h : s < x ↔ y < 0) :
    CallsD Tryd.prog 29 #[.pointer (some p), .pointer (some q), .pointer (some a), .pointer (some b)] .returning w fun e u' w' => u' = .returning ∧ (e = .returned (.tuple #[]) ∧ w' = w) := by
  by_cases h1 : s < x
  · have h2 := h.1 h1
    clear h
    go_enter_d Tryd.func29, Tryd.ntmps29
    go_wp2
    go_end0
    exact ⟨rfl, rfl⟩
  · have h2 : ¬ y < 0 := fun h' => h1 (h.2 h')
    clear h
    go_enter_d Tryd.func29, Tryd.ntmps29
    go_wp2
    go_end0
    exact ⟨rfl, rfl⟩

theorem addd_turn (p q a b : Addr) (s x y z : Int) (w : World) (hp : w.cell? p = some (.int .i64 s)) (hq : w.cell? q = some (.int .i64 x)) (ha : w.cell? a = some (.int .i64 y)) (hb : w.cell? b = some (.int .i64 z))
    (fp : w.frozen? p = false) (fb : w.frozen? b = false) (hpb : b ≠ p) (h : s < x ↔ ¬ y < 0) :
    CallsD Tryd.prog 29 #[.pointer (some p), .pointer (some q), .pointer (some a), .pointer (some b)] .returning w fun e u' w' => u' = .returning ∧ (e = .returned (.tuple #[]) ∧ w' = (w.setCell p (.int .i64 0)).setCell b (.int .i64 15)) := by
  have hb1 := (World.cell?_setCell_other w p b (.int .i64 0) (Ne.symm hpb)).trans hb
  by_cases h1 : s < x
  · have h2 := h.1 h1
    clear h
    go_enter_d Tryd.func29, Tryd.ntmps29
    go_wp2
    go_end0
    exact ⟨rfl, rfl⟩
  · have h2 : y < 0 := by
      by_cases h3 : y < 0
      · exact h3
      · exact absurd (h.2 h3) h1
    clear h
    go_enter_d Tryd.func29, Tryd.ntmps29
    go_wp2
    go_end0
    exact ⟨rfl, rfl⟩

theorem subd_keep (p q a b : Addr) (s x y : Int) (w : World) (hp : w.cell? p = some (.int .i64 s)) (hq : w.cell? q = some (.int .i64 x)) (ha : w.cell? a = some (.int .i64 y)) (h : s < x ↔ 0 < y) :
    CallsD Tryd.prog 30 #[.pointer (some p), .pointer (some q), .pointer (some a), .pointer (some b)] .returning w fun e u' w' => u' = .returning ∧ (e = .returned (.tuple #[]) ∧ w' = w) := by
  by_cases h1 : s < x
  · have h2 := h.1 h1
    clear h
    go_enter_d Tryd.func30, Tryd.ntmps30
    go_wp2
    go_end0
    exact ⟨rfl, rfl⟩
  · have h2 : ¬ 0 < y := fun h' => h1 (h.2 h')
    clear h
    go_enter_d Tryd.func30, Tryd.ntmps30
    go_wp2
    go_end0
    exact ⟨rfl, rfl⟩

theorem subd_turn (p q a b : Addr) (s x y z : Int) (w : World) (hp : w.cell? p = some (.int .i64 s)) (hq : w.cell? q = some (.int .i64 x)) (ha : w.cell? a = some (.int .i64 y)) (hb : w.cell? b = some (.int .i64 z))
    (fp : w.frozen? p = false) (fb : w.frozen? b = false) (hpb : b ≠ p) (h : s < x ↔ ¬ 0 < y) :
    CallsD Tryd.prog 30 #[.pointer (some p), .pointer (some q), .pointer (some a), .pointer (some b)] .returning w fun e u' w' => u' = .returning ∧ (e = .returned (.tuple #[]) ∧ w' = (w.setCell p (.int .i64 0)).setCell b (.int .i64 15)) := by
  have hb1 := (World.cell?_setCell_other w p b (.int .i64 0) (Ne.symm hpb)).trans hb
  by_cases h1 : s < x
  · have h2 := h.1 h1
    clear h
    go_enter_d Tryd.func30, Tryd.ntmps30
    go_wp2
    go_end0
    exact ⟨rfl, rfl⟩
  · have h2 : 0 < y := by
      by_cases h3 : 0 < y
      · exact h3
      · exact absurd (h.2 h3) h1
    clear h
    go_enter_d Tryd.func30, Tryd.ntmps30
    go_wp2
    go_end0
    exact ⟨rfl, rfl⟩

theorem wrap64_over {n : Int} (h : 9223372036854775807 < n) (h' : n < 18446744073709551616) : wrap64 n = n - 18446744073709551616 := by go_arith
theorem wrap64_under {n : Int} (h : n < -9223372036854775808) (h' : -18446744073709551616 ≤ n) : wrap64 n = n + 18446744073709551616 := by go_arith
theorem turn_add {a b : Int} (ha : -9223372036854775808 ≤ a) (ha' : a ≤ 9223372036854775807) (hb : -9223372036854775808 ≤ b) (hb' : b ≤ 9223372036854775807)
    (h : ¬ (-9223372036854775808 ≤ a + b ∧ a + b ≤ 9223372036854775807)) : wrap64 (a + b) < a ↔ ¬ b < 0 := by
  by_cases h0 : 9223372036854775807 < a + b
  · rw [wrap64_over h0 (by omega)]; omega
  · rw [wrap64_under (by omega) (by omega)]; omega
theorem turn_sub {a b : Int} (ha : -9223372036854775808 ≤ a) (ha' : a ≤ 9223372036854775807) (hb : -9223372036854775808 ≤ b) (hb' : b ≤ 9223372036854775807)
    (h : ¬ (-9223372036854775808 ≤ a - b ∧ a - b ≤ 9223372036854775807)) : wrap64 (a - b) < a ↔ ¬ 0 < b := by
  by_cases h0 : 9223372036854775807 < a - b
  · rw [wrap64_over h0 (by omega)]; omega
  · rw [wrap64_under (by omega) (by omega)]; omega

set_option maxHeartbeats 400000 in
theorem add_any (a b : Int) (w : World) (ha : -9223372036854775808 ≤ a) (ha' : a ≤ 9223372036854775807) (hb : -9223372036854775808 ≤ b) (hb' : b ≤ 9223372036854775807) :
    Calls Tryd.prog 10 #[.int .i64 a, .int .i64 b] w fun e w' => e = .returned (.tuple #[.int .i64 (fitV (a + b)), .int .i64 (fitE (a + b))]) ∧ Below w.heap.size w w' := by
  have hmf : ∀ (fn : Fn) (first cap : Array Value) (w : World), (Instr.makeFunc fn first cap).run Tryd.prog w = .ok (.func fn first cap) w := fun _ _ _ _ => rfl
  by_cases h : -9223372036854775808 ≤ a + b ∧ a + b ≤ 9223372036854775807
  · obtain ⟨h1, h2⟩ := h
    go_enter_defers Tryd.func10, Tryd.ntmps10
    go_wp2
    refine leaves_cons (f := 29) (by simp) (by simp [go_sem]; rfl) ?_
    refine (addd_keep _ _ _ _ (a + b) a b _ ?_ ?_ ?_ (by omega)).mono ?_
    · simp [go_sem]
    · simp [go_sem]
    · simp [go_sem]
    rintro e u' w'' ⟨rfl, rfl, rfl⟩
    simp [Leaves, settle, results, Tryd.results10, go_sem, fitV_in h1 h2, fitE_in h1 h2]
    go_grown
  · have ht := turn_add ha ha' hb hb' h
    have hv : fitV (a + b) = 0 := fitV_out (by omega)
    have he : fitE (a + b) = 15 := fitE_out (by omega)
    rw [hv, he]
    clear hv he
    go_enter_defers Tryd.func10, Tryd.ntmps10
    go_wp2
    refine leaves_cons (f := 29) (by simp) (by simp [go_sem]; rfl) ?_
    refine (addd_turn _ _ _ _ (wrap64 (a + b)) a b 0 _ ?_ ?_ ?_ ?_ ?_ ?_ ?_ (by omega)).mono ?_
    · simp [go_sem]
    · simp [go_sem]
    · simp [go_sem]
    · simp [go_sem]
    · simp [go_sem]
    · simp [go_sem]
    · simp
    rintro e u' w'' ⟨rfl, rfl, rfl⟩
    simp [Leaves, settle, results, Tryd.results10, go_sem]
    go_grown
set_option maxHeartbeats 400000 in
theorem sub_any (a b : Int) (w : World) (ha : -9223372036854775808 ≤ a) (ha' : a ≤ 9223372036854775807) (hb : -9223372036854775808 ≤ b) (hb' : b ≤ 9223372036854775807) :
    Calls Tryd.prog 11 #[.int .i64 a, .int .i64 b] w fun e w' => e = .returned (.tuple #[.int .i64 (fitV (a - b)), .int .i64 (fitE (a - b))]) ∧ Below w.heap.size w w' := by
  have hmf : ∀ (fn : Fn) (first cap : Array Value) (w : World), (Instr.makeFunc fn first cap).run Tryd.prog w = .ok (.func fn first cap) w := fun _ _ _ _ => rfl
  by_cases h : -9223372036854775808 ≤ a - b ∧ a - b ≤ 9223372036854775807
  · obtain ⟨h1, h2⟩ := h
    go_enter_defers Tryd.func11, Tryd.ntmps11
    go_wp2
    refine leaves_cons (f := 30) (by simp) (by simp [go_sem]; rfl) ?_
    refine (subd_keep _ _ _ _ (a - b) a b _ ?_ ?_ ?_ (by omega)).mono ?_
    · simp [go_sem]
    · simp [go_sem]
    · simp [go_sem]
    rintro e u' w'' ⟨rfl, rfl, rfl⟩
    simp [Leaves, settle, results, Tryd.results11, go_sem, fitV_in h1 h2, fitE_in h1 h2]
    go_grown
  · have ht := turn_sub ha ha' hb hb' h
    have hv : fitV (a - b) = 0 := fitV_out (by omega)
    have he : fitE (a - b) = 15 := fitE_out (by omega)
    rw [hv, he]
    clear hv he
    go_enter_defers Tryd.func11, Tryd.ntmps11
    go_wp2
    refine leaves_cons (f := 30) (by simp) (by simp [go_sem]; rfl) ?_
    refine (subd_turn _ _ _ _ (wrap64 (a - b)) a b 0 _ ?_ ?_ ?_ ?_ ?_ ?_ ?_ (by omega)).mono ?_
    · simp [go_sem]
    · simp [go_sem]
    · simp [go_sem]
    · simp [go_sem]
    · simp [go_sem]
    · simp [go_sem]
    · simp
    rintro e u' w'' ⟨rfl, rfl, rfl⟩
    simp [Leaves, settle, results, Tryd.results11, go_sem]
    go_grown

theorem wrap_u64_neg {a : Int} (h : a < 0) (h' : -9223372036854775808 ≤ a) : IntKind.u64.wrap a = a + 18446744073709551616 := by rw [IntKind.wrap_u64]; omega

theorem mag_wrap {a : Int} (h : a < 0) (h' : -9223372036854775808 ≤ a) : IntKind.u64.wrap (-IntKind.u64.wrap a) = -a := by
  rw [wrap_u64_neg h h', IntKind.wrap_u64]; omega
theorem sgn_wrap {n : Int} (h0 : 0 ≤ n) (h : n ≤ 9223372036854775808) : wrap64 (IntKind.u64.wrap (-n)) = -n := by
  by_cases hz : n = 0
  · subst hz; go_arith
  · rw [wrap_u64_neg (a := -n) (by omega) (by omega)]; go_arith
theorem ret_i {k : IntKind} {a b : Int} (h : a = b) : Ending.returned (.int k a) = .returned (.int k b) := by rw [h]
theorem ret_2 {k k' : IntKind} {a b c d : Int} (h : a = b) (h' : c = d) : Ending.returned (.tuple #[.int k a, .int k' c]) = .returned (.tuple #[.int k b, .int k' d]) := by rw [h, h']
theorem mag_any (a : Int) (w : World) (ha : -9223372036854775808 ≤ a) (ha' : a ≤ 9223372036854775807) :
    Calls Tryd.prog 32 #[.int .i64 a] w fun e w' => e = .returned (.int .u64 (a.natAbs : Int)) ∧ w = w' := by
  by_cases h : a < 0
  · have h1 : ((a.natAbs : Nat) : Int) = -a := by omega
    rw [h1]
    clear h1
    go_enter Tryd.func32, Tryd.ntmps32
    go_wp2
    go_ret
    exact ⟨ret_i (mag_wrap h ha), rfl⟩
  · have h1 : ((a.natAbs : Nat) : Int) = a := by omega
    rw [h1]
    clear h1
    go_enter Tryd.func32, Tryd.ntmps32
    go_wp2
    go_ret
    exact ⟨rfl, rfl⟩

def rupB (m b : Int) : Bool := decide (m ≠ 0 ∧ ¬ (m < 0 ↔ b < 0))
theorem rup_any (m b : Int) (w : World) :
    Calls Tryd.prog 38 #[.int .i64 m, .int .i64 b] w fun e w' => e = .returned (.bool (rupB m b)) ∧ w = w' := by
  by_cases h0 : m = 0
  · have hr : rupB m b = false := by simp [rupB, h0]
    have h3 : (m != 0) = false := by simp [h0]
    rw [hr]
    clear hr h0
    go_enter Tryd.func38, Tryd.ntmps38
    go_wp2
    go_ret
    exact ⟨rfl, rfl⟩
  · have h3 : (m != 0) = true := by simp [h0]
    by_cases a1 : m < 0 <;> by_cases b1 : b < 0
    all_goals
      have hr : rupB m b = rupB m b := rfl
      conv at hr => rhs; simp [rupB, h0, a1, b1]
      rw [hr]
      clear hr h0
      go_enter Tryd.func38, Tryd.ntmps38
      go_wp2
      go_ret
      exact ⟨rfl, rfl⟩

set_option maxHeartbeats 400000 in
theorem signed_any (neg : Bool) (n : Int) (w : World) (h0 : 0 ≤ n) (h1 : n < 18446744073709551616) :
    Calls Tryd.prog 33 #[.bool neg, .int .u64 n] w fun e w' => e = .returned (.tuple #[.int .i64 (fitV (if neg then -n else n)), .int .i64 (fitE (if neg then -n else n))]) ∧ w = w' := by
  cases neg
  · by_cases h : n ≤ 9223372036854775807
    · have hv : fitV (if false = true then -n else n) = n := by rw [if_neg (by simp)]; exact fitV_in (by omega) h
      have he : fitE (if false = true then -n else n) = 0 := by rw [if_neg (by simp)]; exact fitE_in (by omega) h
      rw [hv, he]; clear hv he
      go_enter Tryd.func33, Tryd.ntmps33
      go_wp2
      go_ret2
      exact ⟨rfl, rfl⟩
    · have hv : fitV (if false = true then -n else n) = 0 := by rw [if_neg (by simp)]; exact fitV_out (by omega)
      have he : fitE (if false = true then -n else n) = 15 := by rw [if_neg (by simp)]; exact fitE_out (by omega)
      rw [hv, he]; clear hv he
      go_enter Tryd.func33, Tryd.ntmps33
      go_wp2
      go_ret2
      exact ⟨rfl, rfl⟩
  · by_cases h : n ≤ 9223372036854775808
    · have hv : fitV (if true = true then -n else n) = -n := by rw [if_pos rfl]; exact fitV_in (by omega) (by omega)
      have he : fitE (if true = true then -n else n) = 0 := by rw [if_pos rfl]; exact fitE_in (by omega) (by omega)
      rw [hv, he]; clear hv he
      go_enter Tryd.func33, Tryd.ntmps33
      go_wp2
      go_ret2
      exact ⟨ret_2 (sgn_wrap h0 h) rfl, rfl⟩
    · have hv : fitV (if true = true then -n else n) = 0 := by rw [if_pos rfl]; exact fitV_out (by omega)
      have he : fitE (if true = true then -n else n) = 15 := by rw [if_pos rfl]; exact fitE_out (by omega)
      rw [hv, he]; clear hv he
      go_enter Tryd.func33, Tryd.ntmps33
      go_wp2
      go_ret2
      exact ⟨rfl, rfl⟩
end Go.Proofs.YtimahbomndffaaaDoor
