/- The law's own small functions (num, month, lives), each with what it returns; the contracts from world to world. -/
import Derived.Test.YtlcilodpelmccaaDoorMonP
import Derived.Deep.RegionHeld3
import Derived.Deep.CutRange
import Derived.Deep.DeepCutAuto
import Derived.Deep.CutBlock
namespace Go.Proofs.YtlcilodpelmccaaDoor.mon
open Go.RowKit

def numB (n e v : Int) : Bool := decide (n = v ∧ e = 0)
theorem num_any (n e v : Int) (w : World) :
    Calls Tryd.prog 18 #[.int .i64 n, .int .i64 e, .int .i64 v] w fun x w' => x = .returned (.bool (numB n e v)) ∧ w = w' := by
  by_cases h1 : n = v <;> by_cases h2 : e = 0
  all_goals
    have hr : numB n e v = numB n e v := rfl
    conv at hr => rhs; simp [numB, h1, h2]
    rw [hr]
    have t1 : (n == v) = decide (n = v) := rfl
    have t2 : (e == 0) = decide (e = 0) := rfl
    simp only [h1, h2, decide_true, decide_false] at t1 t2
    clear hr
    first | subst h1 | clear h1
    first | subst h2 | clear h2
    go_enter Tryd.func18, Tryd.ntmps18
    go_wp2
    go_ret
    exact ⟨rfl, rfl⟩
theorem num_t (n e v : Int) (w : World) (h : n = v) (h' : e = 0) :
    Calls Tryd.prog 18 #[.int .i64 n, .int .i64 e, .int .i64 v] w fun x w' => x = .returned (.bool true) ∧ w = w' := by
  have : numB n e v = true := by simp [numB, h, h']
  rw [← this]; exact num_any n e v w
def monB (y m e z n : Int) : Bool := decide (y = z ∧ m = n ∧ e = 0)
theorem mon_any (y m e z n : Int) (w : World) :
    Calls Tryd.prog 22 #[.int .i64 y, .int .i64 m, .int .i64 e, .int .i64 z, .int .i64 n] w fun x w' => x = .returned (.bool (monB y m e z n)) ∧ w = w' := by
  by_cases h1 : y = z <;> by_cases h2 : m = n <;> by_cases h3 : e = 0
  all_goals
    have hr : monB y m e z n = monB y m e z n := rfl
    conv at hr => rhs; simp [monB, h1, h2, h3]
    rw [hr]
    have t1 : (y == z) = decide (y = z) := rfl
    have t2 : (m == n) = decide (m = n) := rfl
    have t3 : (e == 0) = decide (e = 0) := rfl
    simp only [h1, h2, h3, decide_true, decide_false] at t1 t2 t3
    clear hr
    first | subst h1 | clear h1
    first | subst h2 | clear h2
    first | subst h3 | clear h3
    go_enter Tryd.func22, Tryd.ntmps22
    go_wp2
    go_ret
    exact ⟨rfl, rfl⟩
theorem mon_t (y m e z n : Int) (w : World) (h1 : y = z) (h2 : m = n) (h3 : e = 0) :
    Calls Tryd.prog 22 #[.int .i64 y, .int .i64 m, .int .i64 e, .int .i64 z, .int .i64 n] w fun x w' => x = .returned (.bool true) ∧ w = w' := by
  have : monB y m e z n = true := by simp [monB, h1, h2, h3]
  rw [← this]; exact mon_any y m e z n w
theorem c_eq {f : FuncId} {args : Array Value} {w W : World} {u v : Value} (h : Ok w W) (hv : u = v)
    (hc : Calls Tryd.prog f args W fun x w' => x = .returned u ∧ Below W.heap.size W w') :
    Calls Tryd.prog f args W fun x w' => x = .returned v ∧ Ok w w' := by
  subst hv
  exact hc.mono fun _ _ ⟨h1, h2⟩ => ⟨h1, h.step h2⟩

section
variable {w X : World}
theorem c_same {f : FuncId} {args : Array Value} {u : Value} (h : Ok w X) (hc : Calls Tryd.prog f args X fun x w' => x = .returned u ∧ X = w') :
    Calls Tryd.prog f args X fun x w' => x = .returned u ∧ Ok w w' := hc.mono fun _ _ ⟨h1, h2⟩ => ⟨h1, h2 ▸ h⟩

variable (h : Ok w X) (y m : Int) (hy : I64 y) (hm : I64 m)
include h hy hm
theorem c_check {e : Int} (he : mE y m = e) : Calls Tryd.prog 12 #[.int .i64 y, .int .i64 m] X fun x w' => x = .returned (.int .i64 e) ∧ Ok w w' := c_eq h (by rw [he]) (mcheck_any y m X h.1 hy hm)
theorem c_len {v e : Int} (hv : mV y m (mlen y m) = v) (he : mE y m = e) : Calls Tryd.prog 8 #[.int .i64 y, .int .i64 m] X fun x w' => x = .returned (.tuple #[.int .i64 v, .int .i64 e]) ∧ Ok w w' := c_eq h (by rw [hv, he]) (mlen_any y m X h.1 hy hm)
theorem c_start {v e : Int} (hv : mV y m (mfst y m) = v) (he : mE y m = e) : Calls Tryd.prog 9 #[.int .i64 y, .int .i64 m] X fun x w' => x = .returned (.tuple #[.int .i64 v, .int .i64 e]) ∧ Ok w w' := c_eq h (by rw [hv, he]) (mstart_any y m X h.1 hy hm)
theorem c_end {v e : Int} (hv : mV y m (mlst y m) = v) (he : mE y m = e) : Calls Tryd.prog 10 #[.int .i64 y, .int .i64 m] X fun x w' => x = .returned (.tuple #[.int .i64 v, .int .i64 e]) ∧ Ok w w' := c_eq h (by rw [hv, he]) (mend_any y m X h.1 hy hm)
theorem c_add (k : Int) (hk : I64 k) {z n e : Int} (hz : aV y m k (adY y m k) = z) (hn : aV y m k (adM y m k) = n) (he : aE y m k = e) : Calls Tryd.prog 17 #[.int .i64 y, .int .i64 m, .int .i64 k] X fun x w' => x = .returned (.tuple #[.int .i64 z, .int .i64 n, .int .i64 e]) ∧ Ok w w' := c_eq h (by rw [hz, hn, he]) (madd_any y m X h.1 hy hm k hk)
theorem c_between (z n : Int) (hz : I64 z) (hn : I64 n) {v e : Int} (hv : bV y m z n = v) (he : bE y m z n = e) : Calls Tryd.prog 24 #[.int .i64 y, .int .i64 m, .int .i64 z, .int .i64 n] X fun x w' => x = .returned (.tuple #[.int .i64 v, .int .i64 e]) ∧ Ok w w' := c_eq h (by rw [hv, he]) (mbetween_any y m X h.1 hy hm z n hz hn)
end
theorem c_of {w X : World} (h : Ok w X) (d : Int) (hd : I64 d) {y m e : Int} (hy : oV d (yrOf d) = y) (hm : oV d (moOf d : Nat) = m) (he : yE (yrOf d) = e) : Calls Tryd.prog 19 #[.int .i64 d] X fun x w' => x = .returned (.tuple #[.int .i64 y, .int .i64 m, .int .i64 e]) ∧ Ok w w' := c_eq h (by rw [hy, hm, he]) (mof_any d X h.1 hd)

/-- A block whose first n cells hold the numbers f. -/
def NRow (g n : Nat) (f : Nat → Int) (X : World) : Prop := g < X.heap.size ∧ ∀ i, i < n → X.cell? ⟨g, i, none⟩ = some (.int .i64 (f i))
theorem NRow.below {g n : Nat} {f : Nat → Int} {X Y : World} (h : NRow g n f X) (hb : Below X.heap.size X Y) : NRow g n f Y :=
  ⟨Nat.lt_of_lt_of_le h.1 hb.size, fun i hi => (hb.cell (p := ⟨g, i, none⟩) h.1).trans (h.2 i hi)⟩
theorem NRow.ok {g n : Nat} {f : Nat → Int} {X : World} (h : NRow g n f X) (o : Obj) : NRow g n f (X.alloc o) := h.below ((Below.refl _ _).alloc (Nat.le_refl _) _)

def ysL : List Int := [2000, 1900, 2001]
def ys (i : Nat) : Int := ysL.getD i 0
def msL : List Int := [2, 2, 9]
def ms (i : Nat) : Int := msL.getD i 0
def nsL : List Int := [29, 28, 30]
def ns (i : Nat) : Int := nsL.getD i 0
theorem ex_is (i : Nat) (h : i < 3) : mV (ys i) (ms i) (mlen (ys i) (ms i)) = ns i ∧ mE (ys i) (ms i) = 0 ∧ I64 (ys i) ∧ I64 (ms i) := by
  have : ∀ j : Fin 3, mV (ys j) (ms j) (mlen (ys j) (ms j)) = ns j ∧ mE (ys j) (ms j) = 0 ∧ (-9223372036854775808 ≤ ys j ∧ ys j ≤ 9223372036854775807) ∧ (-9223372036854775808 ≤ ms j ∧ ms j ≤ 9223372036854775807) := by decide +kernel
  exact this ⟨i, h⟩
theorem three_new (W : World) (t u : TypeId) (W' : World) (hW : W' = ((W.alloc (.cells #[.int .i64 2000, .int .i64 1900, .int .i64 2001] t)).alloc (.cells #[.int .i64 2, .int .i64 2, .int .i64 9] u)).alloc (.cells #[.int .i64 29, .int .i64 28, .int .i64 30] u)) :
    NRow W.heap.size 3 ys W' ∧ NRow (W.heap.size + 1) 3 ms W' ∧ NRow (W.heap.size + 1 + 1) 3 ns W' ∧ Below W.heap.size W W' := by
  subst hW
  refine ⟨⟨by simp; omega, fun i hi => ?_⟩, ⟨by simp, fun i hi => ?_⟩, ⟨by simp, fun i hi => ?_⟩, by go_grown⟩
  · rw [cell_of_row _ _ i _ _ (0, 0) ((Below.heap_alloc _ _ _ (by simp; omega)).trans ((Below.heap_alloc _ _ _ (by simp)).trans (heap_alloc_new W _)))]
    match i, hi with
    | 0, _ | 1, _ | 2, _ => rfl
  · have h1 := heap_alloc_new (W.alloc (.cells #[.int .i64 2000, .int .i64 1900, .int .i64 2001] t)) (.cells #[.int .i64 2, .int .i64 2, .int .i64 9] u)
    rw [show (W.alloc (.cells #[Value.int .i64 2000, .int .i64 1900, .int .i64 2001] t)).heap.size = W.heap.size + 1 by simp] at h1
    rw [cell_of_row _ _ i _ _ (0, 0) ((Below.heap_alloc _ _ _ (by simp)).trans h1)]
    match i, hi with
    | 0, _ | 1, _ | 2, _ => rfl
  · have h1 := heap_alloc_new ((W.alloc (.cells #[.int .i64 2000, .int .i64 1900, .int .i64 2001] t)).alloc (.cells #[.int .i64 2, .int .i64 2, .int .i64 9] u)) (.cells #[.int .i64 29, .int .i64 28, .int .i64 30] u)
    rw [show ((W.alloc (.cells #[Value.int .i64 2000, .int .i64 1900, .int .i64 2001] t)).alloc (.cells #[.int .i64 2, .int .i64 2, .int .i64 9] u)).heap.size = W.heap.size + 1 + 1 by simp] at h1
    rw [cell_of_row _ _ i _ _ (0, 0) h1]
    match i, hi with
    | 0, _ | 1, _ | 2, _ => rfl

set_option maxRecDepth 100000 in
set_option maxHeartbeats 4000000 in
theorem lives_t (w W : World) (h : Ok w W) : Calls Tryd.prog 13 #[] W fun e w' => e = .returned (.bool true) ∧ Ok w w' := by
  go_enter Tryd.func13, Tryd.ntmps13
  go_wp2_with fail
  obtain ⟨k0, k1, k2, hb⟩ := three_new W 2 3 _ rfl
  have ho0 := h.step hb
  generalize ((W.alloc (Obj.cells #[Value.int IntKind.i64 2000, Value.int IntKind.i64 1900, Value.int IntKind.i64 2001] 2)).alloc (Obj.cells #[Value.int IntKind.i64 2, Value.int IntKind.i64 2, Value.int IntKind.i64 9] 3)).alloc (Obj.cells #[Value.int IntKind.i64 29, Value.int IntKind.i64 28, Value.int IntKind.i64 30] 3) = W1 at *
  generalize hg1 : W.heap.size + 1 = g1 at *
  generalize hg : W.heap.size = g at *
  clear hg hg1 h hb
  go_loopw [4] (fun iv wr => ∃ (i : Nat), i ≤ 3 ∧ iv = .int .i64 i ∧ NRow g 3 ys wr ∧ NRow g1 3 ms wr ∧ NRow (g1 + 1) 3 ns wr ∧ Ok w wr) (fun iv _ => 3 - (intOf iv).toNat)
  case atStart => exact ⟨0, by omega, rfl, k0, k1, k2, ho0⟩
  case round =>
    obtain ⟨i, hi, rfl, h0, h1, h2, ho⟩ := hrel
    clear k0 k1 k2 ho0
    by_cases hi3 : i = 3
    · subst hi3
      have hi1 : ¬ ((3 : Nat) : Int) < 3 := by omega
      clear h0 h1 h2 hi
      go_wp2_with (first
        | (go_at_call 18; refine (num_t _ _ _ _ (by rfl) (by rfl)).mono ?_; rintro e w' ⟨rfl, rfl⟩)
        | (go_at_call 22; refine (mon_t _ _ _ _ _ _ (by rfl) (by rfl) (by rfl)).mono ?_; rintro e w' ⟨rfl, rfl⟩)
        | (go_at_call 10; ((with_reducible refine (c_end (by assumption) 0 2 (by unfold I64; omega) (by unfold I64; omega) (v := 59) (e := 0) (by decide +kernel) (by decide +kernel)).mono ?_); rintro e w' ⟨rfl, hk⟩))
        | (go_at_call 9; ((with_reducible refine (c_start (by assumption) 0 3 (by unfold I64; omega) (by unfold I64; omega) (v := 60) (e := 0) (by decide +kernel) (by decide +kernel)).mono ?_); rintro e w' ⟨rfl, hk⟩))
        | (go_at_call 9; ((with_reducible refine (c_start (by assumption) 1970 12 (by unfold I64; omega) (by unfold I64; omega) (v := 719862) (e := 0) (by decide +kernel) (by decide +kernel)).mono ?_); rintro e w' ⟨rfl, hk⟩))
        | (go_at_call 19; ((with_reducible refine (c_of (by assumption) 59 (by unfold I64; omega) (y := 0) (m := 2) (e := 0) (by decide +kernel) (by decide +kernel) (by decide +kernel)).mono ?_); rintro e w' ⟨rfl, hk⟩))
        | (go_at_call 19; ((with_reducible refine (c_of (by assumption) 60 (by unfold I64; omega) (y := 0) (m := 3) (e := 0) (by decide +kernel) (by decide +kernel) (by decide +kernel)).mono ?_); rintro e w' ⟨rfl, hk⟩))
        | (go_at_call 19; ((with_reducible refine (c_of (by assumption) (-1) (by unfold I64; omega) (y := -1) (m := 12) (e := 0) (by decide +kernel) (by decide +kernel) (by decide +kernel)).mono ?_); rintro e w' ⟨rfl, hk⟩))
        | (go_at_call 17; ((with_reducible refine (c_add (by assumption) 1999 11 (by unfold I64; omega) (by unfold I64; omega) 3 (by unfold I64; omega) (z := 2000) (n := 2) (e := 0) (by decide +kernel) (by decide +kernel) (by decide +kernel)).mono ?_); rintro e w' ⟨rfl, hk⟩))
        | (go_at_call 17; ((with_reducible refine (c_add (by assumption) 2000 1 (by unfold I64; omega) (by unfold I64; omega) (-1) (by unfold I64; omega) (z := 1999) (n := 12) (e := 0) (by decide +kernel) (by decide +kernel) (by decide +kernel)).mono ?_); rintro e w' ⟨rfl, hk⟩))
        | (go_at_call 17; ((with_reducible refine (c_add (by assumption) 10000000000000000 12 (by unfold I64; omega) (by unfold I64; omega) 1 (by unfold I64; omega) (z := 0) (n := 0) (e := 6) (by decide +kernel) (by decide +kernel) (by decide +kernel)).mono ?_); rintro e w' ⟨rfl, hk⟩))
        | (go_at_call 24; ((with_reducible refine (c_between (by assumption) 1999 11 (by unfold I64; omega) (by unfold I64; omega) 2000 2 (by unfold I64; omega) (by unfold I64; omega) (v := 3) (e := 0) (by decide +kernel) (by decide +kernel)).mono ?_); rintro e w' ⟨rfl, hk⟩))
        | (go_at_call 24; ((with_reducible refine (c_between (by assumption) 5 1 (by unfold I64; omega) (by unfold I64; omega) 4 12 (by unfold I64; omega) (by unfold I64; omega) (v := -1) (e := 0) (by decide +kernel) (by decide +kernel)).mono ?_); rintro e w' ⟨rfl, hk⟩))
        | (go_at_call 12; ((with_reducible refine (c_check (by assumption) 1 13 (by unfold I64; omega) (by unfold I64; omega) (e := 7) (by decide +kernel)).mono ?_); rintro e w' ⟨rfl, hk⟩))
        | (go_at_call 12; ((with_reducible refine (c_check (by assumption) 10000000000000001 13 (by unfold I64; omega) (by unfold I64; omega) (e := 6) (by decide +kernel)).mono ?_); rintro e w' ⟨rfl, hk⟩)))
      go_ret
      exact ⟨rfl, by assumption⟩
    · have hi1 : (i : Int) < 3 := by omega
      have hi0 : (0 : Int) ≤ (i : Int) := by omega
      have hi2 : i < 3 := by omega
      obtain ⟨q1, q2, q3, q4⟩ := ex_is i hi2
      have f0 := h0.2 i hi2
      have f1 := h1.2 i hi2
      have f2' := h2.2 i hi2
      have l0 := h0.1
      have l1 := h1.1
      have l2 := h2.1
      have KS : Hid (∀ X, Below wr.heap.size wr X → Calls Tryd.prog 8 #[.int .i64 (ys i), .int .i64 (ms i)] X fun x w' => x = .returned (.tuple #[.int .i64 (ns i), .int .i64 0]) ∧ Below X.heap.size X w' ∧ Below wr.heap.size wr w') := fun X hX => (c_len (Ok.refl (ho.1.below hX)) (ys i) (ms i) q3 q4 q1 q2).mono fun _ _ ⟨h1, h2⟩ => ⟨h1, h2.2, hX.trans (h2.2.mono hX.size)⟩
      have H0 := Lib.hid h0
      have H1 := Lib.hid h1
      have H2 := Lib.hid h2
      clear q1 q2 q3 q4 h0 h1 h2
      generalize ys i = y at *
      generalize ms i = m at *
      generalize ns i = n at *
      go_upto_region 5 with fail
      go_region_held3 (fun w' => w'.cell? ⟨g, i, none⟩ = some (.int .i64 y) ∧ w'.cell? ⟨g1, i, none⟩ = some (.int .i64 m)) (go_keep)
        (first | (go_at_call 8; refine (KS.out _ (by go_grown)).mono ?_; rintro e x1 ⟨rfl, hy1, hX⟩; have k0 := (hX.cell (p := ⟨g, i, none⟩) l0).trans f0; have k1 := (hX.cell (p := ⟨g1, i, none⟩) l1).trans f1; have f2 := (hX.cell (p := ⟨g1 + 1, i, none⟩) l2).trans f2'))
      all_goals
        go_wp2_with fail
        go_roundw
        case rel => exact ⟨i + 1, by omega, by first | rfl | go_num, H0.out.below hX, H1.out.below hX, H2.out.below hX, ho.step hX⟩
        case measure => simp [intOf]; omega
end Go.Proofs.YtlcilodpelmccaaDoor.mon
