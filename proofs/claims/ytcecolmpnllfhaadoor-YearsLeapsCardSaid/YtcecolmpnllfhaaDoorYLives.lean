/- The law's own small functions (num, bad, lives), each with what it returns; the contracts from world to world. -/
import Derived.Test.YtcecolmpnllfhaaDoorYP
namespace Go.Proofs.YtcecolmpnllfhaaDoor
open Go.RowKit

def numB (n e v : Int) : Bool := decide (n = v ∧ e = 0)
theorem num_any (n e v : Int) (w : World) :
    Calls Tryd.prog 17 #[.int .i64 n, .int .i64 e, .int .i64 v] w fun x w' => x = .returned (.bool (numB n e v)) ∧ w = w' := by
  by_cases h1 : n = v <;> by_cases h2 : e = 0
  all_goals
    have hr : numB n e v = numB n e v := rfl
    conv at hr => rhs; simp [numB, h1, h2]
    rw [hr]
    have t1 : (n == v) = decide (n = v) := rfl
    have t2 : (e == 0) = decide (e = 0) := rfl
    simp only [h1, h2, decide_true, decide_false] at t1 t2
    clear hr
    first | subst h1 | clear h1
    first | subst h2 | clear h2
    go_enter Tryd.func17, Tryd.ntmps17
    go_wp2
    go_ret
    exact ⟨rfl, rfl⟩
def badB (n e : Int) : Bool := decide (n = 0 ∧ e = 6)
theorem bad_any (n e : Int) (w : World) :
    Calls Tryd.prog 12 #[.int .i64 n, .int .i64 e] w fun x w' => x = .returned (.bool (badB n e)) ∧ w = w' := by
  by_cases h1 : n = 0 <;> by_cases h2 : e = 6
  all_goals
    have hr : badB n e = badB n e := rfl
    conv at hr => rhs; simp [badB, h1, h2]
    rw [hr]
    have t1 : (n == 0) = decide (n = 0) := rfl
    have t2 : (e == 6) = decide (e = 6) := rfl
    simp only [h1, h2, decide_true, decide_false] at t1 t2
    clear hr
    first | subst h1 | clear h1
    first | subst h2 | clear h2
    go_enter Tryd.func12, Tryd.ntmps12
    go_wp2
    go_ret
    exact ⟨rfl, rfl⟩
theorem num_t (n e v : Int) (w : World) (h : n = v) (h' : e = 0) :
    Calls Tryd.prog 17 #[.int .i64 n, .int .i64 e, .int .i64 v] w fun x w' => x = .returned (.bool true) ∧ w = w' := by
  have : numB n e v = true := by simp [numB, h, h']
  rw [← this]; exact num_any n e v w
theorem bad_t (n e : Int) (w : World) (h : n = 0) (h' : e = 6) :
    Calls Tryd.prog 12 #[.int .i64 n, .int .i64 e] w fun x w' => x = .returned (.bool true) ∧ w = w' := by
  have : badB n e = true := by simp [badB, h, h']
  rw [← this]; exact bad_any n e w
theorem c_eq {f : FuncId} {args : Array Value} {w W : World} {u v : Value} (h : Ok w W) (hv : u = v)
    (hc : Calls Tryd.prog f args W fun x w' => x = .returned u ∧ Below W.heap.size W w') :
    Calls Tryd.prog f args W fun x w' => x = .returned v ∧ Ok w w' := by
  subst hv
  exact hc.mono fun _ _ ⟨h1, h2⟩ => ⟨h1, h.step h2⟩

section
variable {w X : World}
theorem c_same {f : FuncId} {args : Array Value} {u : Value} (h : Ok w X) (hc : Calls Tryd.prog f args X fun x w' => x = .returned u ∧ X = w') :
    Calls Tryd.prog f args X fun x w' => x = .returned u ∧ Ok w w' := hc.mono fun _ _ ⟨h1, h2⟩ => ⟨h1, h2 ▸ h⟩

theorem c_check (h : Ok w X) (y : Int) (h0 : -9223372036854775808 ≤ y) (h1 : y ≤ 9223372036854775807) {e : Int} (he : yE y = e) : Calls Tryd.prog 13 #[.int .i64 y] X fun x w' => x = .returned (.int .i64 e) ∧ Ok w w' := c_eq h (by rw [he]) (check_any y X h.1 h0 h1)
theorem c_leap (h : Ok w X) (y : Int) (h0 : -9223372036854775808 ≤ y) (h1 : y ≤ 9223372036854775807) {b : Bool} {e : Int} (hb : (yr y && lpB y) = b) (he : yE y = e) : Calls Tryd.prog 7 #[.int .i64 y] X fun x w' => x = .returned (.tuple #[.bool b, .int .i64 e]) ∧ Ok w w' := c_eq h (by rw [hb, he]) (leap_any y X h.1 h0 h1)
theorem c_len (h : Ok w X) (y : Int) (h0 : -9223372036854775808 ≤ y) (h1 : y ≤ 9223372036854775807) {v e : Int} (hv : yV y (lenI y) = v) (he : yE y = e) : Calls Tryd.prog 8 #[.int .i64 y] X fun x w' => x = .returned (.tuple #[.int .i64 v, .int .i64 e]) ∧ Ok w w' := c_eq h (by rw [hv, he]) (len_any y X h.1 h0 h1)
theorem c_start (h : Ok w X) (y : Int) (h0 : -9223372036854775808 ≤ y) (h1 : y ≤ 9223372036854775807) {v e : Int} (hv : yV y (stI y) = v) (he : yE y = e) : Calls Tryd.prog 9 #[.int .i64 y] X fun x w' => x = .returned (.tuple #[.int .i64 v, .int .i64 e]) ∧ Ok w w' := c_eq h (by rw [hv, he]) (start_any y X h.1 h0 h1)
theorem c_end (h : Ok w X) (y : Int) (h0 : -9223372036854775808 ≤ y) (h1 : y ≤ 9223372036854775807) {v e : Int} (hv : yV y (stI (y + 1) - 1) = v) (he : yE y = e) : Calls Tryd.prog 10 #[.int .i64 y] X fun x w' => x = .returned (.tuple #[.int .i64 v, .int .i64 e]) ∧ Ok w w' := c_eq h (by rw [hv, he]) (end_any y X h.1 h0 h1)
theorem c_of (h : Ok w X) (d : Int) (h0 : -9223372036854775808 ≤ d) (h1 : d ≤ 9223372036854775807) {v e : Int} (hv : yV (yrOf d) (yrOf d) = v) (he : yE (yrOf d) = e) : Calls Tryd.prog 19 #[.int .i64 d] X fun x w' => x = .returned (.tuple #[.int .i64 v, .int .i64 e]) ∧ Ok w w' := c_eq h (by rw [hv, he]) (of_any d X h.1 h0 h1)
theorem c_leaps (h : Ok w X) (a b : Int) (h0 : -9223372036854775808 ≤ a) (h1 : a ≤ 9223372036854775807) (h2 : -9223372036854775808 ≤ b) (h3 : b ≤ 9223372036854775807) {v e : Int} (hv : lpsV a b = v) (he : lpsE a b = e) : Calls Tryd.prog 21 #[.int .i64 a, .int .i64 b] X fun x w' => x = .returned (.tuple #[.int .i64 v, .int .i64 e]) ∧ Ok w w' := c_eq h (by rw [hv, he]) (leaps_any a X h.1 h0 h1 b h2 h3)
end

/-- The lists of the chapter's examples. -/
def lvL : List Int := [0, 1900, 2000, -4, -100]
def lv (i : Nat) : Int := lvL.getD i 0
def lvB (i : Nat) : Bool := decide (i ≠ 1 ∧ i ≠ 4)
def ysL : List Int := [0, 1, -1, 1970, 2000, 10000000000000000]
def ys (i : Nat) : Int := ysL.getD i 0
def dsL : List Int := [0, 366, -365, 719528, 730485, 3652425000000000000]
def dsI (i : Nat) : Int := dsL.getD i 0
theorem lv_is (i : Nat) (h : i < 5) : (yr (lv i) && lpB (lv i)) = lvB i ∧ yE (lv i) = 0 ∧ -9223372036854775808 ≤ lv i ∧ lv i ≤ 9223372036854775807 := by
  have : ∀ j : Fin 5, (yr (lv j) && lpB (lv j)) = lvB j ∧ yE (lv j) = 0 ∧ -9223372036854775808 ≤ lv j ∧ lv j ≤ 9223372036854775807 := by decide +kernel
  exact this ⟨i, h⟩
theorem ys_is (i : Nat) (h : i < 6) : yV (ys i) (stI (ys i)) = dsI i ∧ yE (ys i) = 0 ∧ -9223372036854775808 ≤ ys i ∧ ys i ≤ 9223372036854775807 ∧ -9223372036854775808 ≤ dsI i ∧ dsI i ≤ 9223372036854775807 := by
  have : ∀ j : Fin 6, yV (ys j) (stI (ys j)) = dsI j ∧ yE (ys j) = 0 ∧ -9223372036854775808 ≤ ys j ∧ ys j ≤ 9223372036854775807 ∧ -9223372036854775808 ≤ dsI j ∧ dsI j ≤ 9223372036854775807 := by decide +kernel
  exact this ⟨i, h⟩
/-- A block whose first n cells hold the numbers f. -/
def NRow (g n : Nat) (f : Nat → Int) (X : World) : Prop := g < X.heap.size ∧ ∀ i, i < n → X.cell? ⟨g, i, none⟩ = some (.int .i64 (f i))
theorem NRow.below {g n : Nat} {f : Nat → Int} {X Y : World} (h : NRow g n f X) (hb : Below X.heap.size X Y) : NRow g n f Y :=
  ⟨Nat.lt_of_lt_of_le h.1 hb.size, fun i hi => (hb.cell (p := ⟨g, i, none⟩) h.1).trans (h.2 i hi)⟩
theorem NRow.ok {g n : Nat} {f : Nat → Int} {X : World} (h : NRow g n f X) (o : Obj) : NRow g n f (X.alloc o) := h.below ((Below.refl _ _).alloc (Nat.le_refl _) _)
theorem lv_new (W : World) (t : TypeId) : NRow W.heap.size 5 lv (W.alloc (.cells #[.int .i64 0, .int .i64 1900, .int .i64 2000, .int .i64 (-4), .int .i64 (-100)] t)) :=
  ⟨by simp, fun i hi => by
    rw [cell_of_row _ _ i _ _ (0, 0) (heap_alloc_new W _)]
    match i, hi with
    | 0, _ | 1, _ | 2, _ | 3, _ | 4, _ => rfl⟩
theorem ys_new (W : World) (t : TypeId) : NRow W.heap.size 6 ys (W.alloc (.cells #[.int .i64 0, .int .i64 1, .int .i64 (-1), .int .i64 1970, .int .i64 2000, .int .i64 10000000000000000] t)) :=
  ⟨by simp, fun i hi => by
    rw [cell_of_row _ _ i _ _ (0, 0) (heap_alloc_new W _)]
    match i, hi with
    | 0, _ | 1, _ | 2, _ | 3, _ | 4, _ | 5, _ => rfl⟩
theorem ds_new (W : World) (t : TypeId) : NRow W.heap.size 6 dsI (W.alloc (.cells #[.int .i64 0, .int .i64 366, .int .i64 (-365), .int .i64 719528, .int .i64 730485, .int .i64 3652425000000000000] t)) :=
  ⟨by simp, fun i hi => by
    rw [cell_of_row _ _ i _ _ (0, 0) (heap_alloc_new W _)]
    match i, hi with
    | 0, _ | 1, _ | 2, _ | 3, _ | 4, _ | 5, _ => rfl⟩

set_option maxRecDepth 100000 in
set_option maxHeartbeats 4000000 in
theorem lives_t (w W : World) (h : Ok w W) : Calls Tryd.prog 14 #[] W fun e w' => e = .returned (.bool true) ∧ Ok w w' := by
  go_enter Tryd.func14, Tryd.ntmps14
  go_wp2_with fail
  have hr0 := lv_new W 2
  have ho0 : Ok w (W.alloc (.cells #[.int .i64 0, .int .i64 1900, .int .i64 2000, .int .i64 (-4), .int .i64 (-100)] 2)) := h.step (by go_grown)
  generalize hg : W.heap.size = g at *
  generalize (W.alloc (Obj.cells #[Value.int IntKind.i64 0, Value.int IntKind.i64 1900, Value.int IntKind.i64 2000, Value.int IntKind.i64 (-4), Value.int IntKind.i64 (-100)] 2)) = W1 at *
  clear hg h
  go_loopw [2] (fun iv wr => ∃ (i : Nat), i ≤ 5 ∧ iv = .int .i64 i ∧ NRow g 5 lv wr ∧ Ok w wr) (fun iv _ => 5 - (intOf iv).toNat)
  case atStart => exact ⟨0, by omega, rfl, hr0, ho0⟩
  case round =>
    obtain ⟨i, hi, rfl, hk, ho⟩ := hrel
    clear hr0 ho0
    by_cases hi5 : i = 5
    · subst hi5
      have hi1 : ¬ ((5 : Nat) : Int) < 5 := by omega
      clear hk hi
      go_wp2_with fail
      have hys := (ys_new wr 2).ok (Obj.cells #[.int .i64 0, .int .i64 366, .int .i64 (-365), .int .i64 719528, .int .i64 730485, .int .i64 3652425000000000000] 2)
      have hds := ds_new (wr.alloc (Obj.cells #[.int .i64 0, .int .i64 1, .int .i64 (-1), .int .i64 1970, .int .i64 2000, .int .i64 10000000000000000] 2)) 2
      have ho1 := (ho.step (by go_grown : Below wr.heap.size wr (wr.alloc (Obj.cells #[.int .i64 0, .int .i64 1, .int .i64 (-1), .int .i64 1970, .int .i64 2000, .int .i64 10000000000000000] 2)))).step (by go_grown : Below (wr.alloc (Obj.cells #[.int .i64 0, .int .i64 1, .int .i64 (-1), .int .i64 1970, .int .i64 2000, .int .i64 10000000000000000] 2)).heap.size _ ((wr.alloc (Obj.cells #[.int .i64 0, .int .i64 1, .int .i64 (-1), .int .i64 1970, .int .i64 2000, .int .i64 10000000000000000] 2)).alloc (Obj.cells #[.int .i64 0, .int .i64 366, .int .i64 (-365), .int .i64 719528, .int .i64 730485, .int .i64 3652425000000000000] 2)))
      rw [show (wr.alloc (Obj.cells #[Value.int IntKind.i64 0, Value.int IntKind.i64 1, Value.int IntKind.i64 (-1), Value.int IntKind.i64 1970, Value.int IntKind.i64 2000, Value.int IntKind.i64 10000000000000000] 2)).heap.size = wr.heap.size + 1 by simp] at hds
      generalize hg1 : wr.heap.size + 1 = g1 at *
      generalize hg0 : wr.heap.size = g0 at *
      generalize (wr.alloc (Obj.cells #[Value.int IntKind.i64 0, Value.int IntKind.i64 1, Value.int IntKind.i64 (-1), Value.int IntKind.i64 1970, Value.int IntKind.i64 2000, Value.int IntKind.i64 10000000000000000] 2)).alloc (Obj.cells #[Value.int IntKind.i64 0, Value.int IntKind.i64 366, Value.int IntKind.i64 (-365), Value.int IntKind.i64 719528, Value.int IntKind.i64 730485, Value.int IntKind.i64 3652425000000000000] 2) = W2 at *
      clear hg1 hg0 ho
      go_loopw [7] (fun iv wr => ∃ (i : Nat), i ≤ 6 ∧ iv = .int .i64 i ∧ NRow g0 6 ys wr ∧ NRow g1 6 dsI wr ∧ Ok w wr) (fun iv _ => 6 - (intOf iv).toNat)
      case atStart => exact ⟨0, by omega, rfl, hys, hds, ho1⟩
      case round =>
        obtain ⟨i, hi, rfl, hk, hk2, ho⟩ := hrel
        clear hys hds ho1
        by_cases hi6 : i = 6
        · subst hi6
          have hi1 : ¬ ((6 : Nat) : Int) < 6 := by omega
          clear hk hk2 hi
          go_wp2_with (first
            | (go_at_call 17; refine (num_t _ _ _ _ (by rfl) (by rfl)).mono ?_; rintro e w' ⟨rfl, rfl⟩)
            | (go_at_call 12; refine (bad_t _ _ _ (by rfl) (by rfl)).mono ?_; rintro e w' ⟨rfl, rfl⟩)
            | (go_at_call 10; ((with_reducible refine (c_end (by assumption) 1999 (by omega) (by omega) (v := 730484) (e := 0) (by decide +kernel) (by decide +kernel)).mono ?_); rintro e w' ⟨rfl, hk⟩))
            | (go_at_call 10; ((with_reducible refine (c_end (by assumption) 10000000000000000 (by omega) (by omega) (v := 3652425000000000365) (e := 0) (by decide +kernel) (by decide +kernel)).mono ?_); rintro e w' ⟨rfl, hk⟩))
            | (go_at_call 19; ((with_reducible refine (c_of (by assumption) 730484 (by omega) (by omega) (v := 1999) (e := 0) (by decide +kernel) (by decide +kernel)).mono ?_); rintro e w' ⟨rfl, hk⟩))
            | (go_at_call 19; ((with_reducible refine (c_of (by assumption) (-1) (by omega) (by omega) (v := -1) (e := 0) (by decide +kernel) (by decide +kernel)).mono ?_); rintro e w' ⟨rfl, hk⟩))
            | (go_at_call 19; ((with_reducible refine (c_of (by assumption) 0 (by omega) (by omega) (v := 0) (e := 0) (by decide +kernel) (by decide +kernel)).mono ?_); rintro e w' ⟨rfl, hk⟩))
            | (go_at_call 21; ((with_reducible refine (c_leaps (by assumption) 1 400 (by omega) (by omega) (by omega) (by omega) (v := 97) (e := 0) (by decide +kernel) (by decide +kernel)).mono ?_); rintro e w' ⟨rfl, hk⟩))
            | (go_at_call 21; ((with_reducible refine (c_leaps (by assumption) (-4) 4 (by omega) (by omega) (by omega) (by omega) (v := 3) (e := 0) (by decide +kernel) (by decide +kernel)).mono ?_); rintro e w' ⟨rfl, hk⟩))
            | (go_at_call 21; ((with_reducible refine (c_leaps (by assumption) 5 4 (by omega) (by omega) (by omega) (by omega) (v := 0) (e := 0) (by decide +kernel) (by decide +kernel)).mono ?_); rintro e w' ⟨rfl, hk⟩))
            | (go_at_call 9; ((with_reducible refine (c_start (by assumption) 10000000000000001 (by omega) (by omega) (v := 0) (e := 6) (by decide +kernel) (by decide +kernel)).mono ?_); rintro e w' ⟨rfl, hk⟩)))
          go_ret
          exact ⟨rfl, by assumption⟩
        · have hi1 : (i : Int) < 6 := by omega
          have hi2 : i < 6 := by omega
          have hc1 := hk.2 i hi2
          have hl2 := hk2.1
          obtain ⟨q1, q2, q3, q4, q5, q6⟩ := ys_is i hi2
          have KS : Hid (∀ X, Ok w X → Calls Tryd.prog 9 #[.int .i64 (ys i)] X fun x w' => x = .returned (.tuple #[.int .i64 (dsI i), .int .i64 0]) ∧ Below X.heap.size X w' ∧ Ok w w') := fun X hX => (c_start (Ok.refl hX.1) (ys i) q3 q4 q1 q2).mono fun _ _ ⟨h1, h2⟩ => ⟨h1, h2.2, hX.step h2.2⟩
          have HK := Lib.hid hk
          have HK2 := Lib.hid hk2
          have hc2' := hk2.2 i hi2
          clear q1 q2 q3 q4 q5 q6 hk hk2
          generalize ys i = y at *
          generalize dsI i = d at *
          go_wp2_with (first
            | (go_at_call 9; refine (KS.out _ (by assumption)).mono ?_; rintro e w1 ⟨rfl, hb1, hok⟩; have hc2 := (hb1.cell (p := ⟨g1, i, none⟩) hl2).trans hc2')
            | (go_at_call 17; refine (num_t _ _ _ _ (by rfl) (by rfl)).mono ?_; rintro e w' ⟨rfl, rfl⟩))
          go_roundw
          case rel => exact ⟨i + 1, by omega, by first | rfl | go_num, HK.out.below hb1, HK2.out.below hb1, hok⟩
          case measure => simp [intOf]; omega
    · have hi1 : (i : Int) < 5 := by omega
      have hi2 : i < 5 := by omega
      have hc1 := hk.2 i hi2
      obtain ⟨q1, q2, q3, q4⟩ := lv_is i hi2
      have KS : Hid (∀ X, Ok w X → Calls Tryd.prog 7 #[.int .i64 (lv i)] X fun x w' => x = .returned (.tuple #[.bool (lvB i), .int .i64 0]) ∧ Below X.heap.size X w' ∧ Ok w w') := fun X hX => (c_leap (Ok.refl hX.1) (lv i) q3 q4 q1 q2).mono fun _ _ ⟨h1, h2⟩ => ⟨h1, h2.2, hX.step h2.2⟩
      have HK := Lib.hid hk
      clear q1 q2 q3 q4 hk
      generalize lv i = y at *
      have h3 : (lvB i = false ∧ ((i : Int) != 1) = false) ∨ (lvB i = false ∧ ((i : Int) != 1) = true ∧ ((i : Int) != 4) = false) ∨ (lvB i = true ∧ ((i : Int) != 1) = true ∧ ((i : Int) != 4) = true) := by
        by_cases e1 : i = 1
        · left; subst e1; exact ⟨by decide, by decide⟩
        · right
          have g1 : ((i : Int) != 1) = true := by rw [bne_iff_ne]; omega
          by_cases e4 : i = 4
          · left; subst e4; exact ⟨by decide, by decide, by decide⟩
          · right; exact ⟨by simp [lvB, e1, e4], g1, by rw [bne_iff_ne]; omega⟩
      generalize lvB i = b at *
      rcases h3 with ⟨rfl, g1⟩ | ⟨rfl, g1, g2⟩ | ⟨rfl, g1, g2⟩
      all_goals
        go_wp2_with (go_at_call 7; refine (KS.out _ (by assumption)).mono ?_; rintro e w1 ⟨rfl, hb1, hok⟩)
        go_roundw
        case rel => exact ⟨i + 1, by omega, by first | rfl | go_num, HK.out.below hb1, hok⟩
        case measure => simp [intOf]; omega
end Go.Proofs.YtcecolmpnllfhaaDoor
