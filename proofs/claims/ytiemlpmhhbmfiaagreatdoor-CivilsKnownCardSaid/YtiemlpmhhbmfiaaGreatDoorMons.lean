/- The error of what may be no int64. -/
import Derived.Test.YtiemlpmhhbmfiaaGreatDoorQ0
import Derived.Test.YtiemlpmhhbmfiaaGreatDoorYRef
import Derived.Test.YtiemlpmhhbmfiaaGreatDoorY0
import Derived.Test.YtiemlpmhhbmfiaaGreatDoorMonRef
import Derived.Laws.Rows
import Derived.Deep.Cut
import Derived.Deep.RegionHeld3
import Derived.Deep.RegionWith
import Derived.Deep.CutRange
import Derived.Deep.DeepCutAuto
import Derived.Deep.CutBlock
import Derived.Deep.LoopGhost
import Derived.IntWalk
import Derived.RegionTactic
namespace Go.Proofs.YtiemlpmhhbmfiaaGreatDoor
def fitE (n : Int) : Int := if -9223372036854775808 ≤ n ∧ n ≤ 9223372036854775807 then 0 else 15
theorem fitE_in {n : Int} (h : -9223372036854775808 ≤ n) (h' : n ≤ 9223372036854775807) : fitE n = 0 := if_pos ⟨h, h'⟩
theorem fitE_out {n : Int} (h : n < -9223372036854775808 ∨ 9223372036854775807 < n) : fitE n = 15 := if_neg (by omega)
end Go.Proofs.YtiemlpmhhbmfiaaGreatDoor
/- The reference of years (circaref04): how many leap years there are. -/
namespace Go.Proofs.YtiemlpmhhbmfiaaGreatDoor
open Go.RowKit

theorem lps_mono {a b : Int} (h : a ≤ b) : lps a ≤ lps b ∧ lps b ≤ lps a + (b - a) := by
  obtain ⟨n, rfl⟩ : ∃ n : Nat, b = a + n := ⟨(b - a).toNat, by omega⟩
  clear h
  induction n with
  | zero => simp
  | succ n ih =>
    have h1 := lps_succ (a + ((n + 1 : Nat) : Int))
    have h2 := lenI_bd (a + ((n + 1 : Nat) : Int))
    rw [show a + ((n + 1 : Nat) : Int) - 1 = a + (n : Int) by omega] at h1
    omega

end Go.Proofs.YtiemlpmhhbmfiaaGreatDoor
/- ints.Div where the divisor is positive: the quotient downwards. -/
namespace Go.Proofs.YtiemlpmhhbmfiaaGreatDoor
open Go.RowKit

theorem rup_pos (m b : Int) (w : World) (hb : 0 < b) :
    Calls Tryz.prog 69 #[.int .i64 m, .int .i64 b] w fun e w' => e = .returned (.bool (decide (m < 0))) ∧ w = w' := by
  by_cases h0 : m = 0
  · subst h0
    have h3 : ((0 : Int) != 0) = false := by decide
    go_enter Tryz.func69, Tryz.ntmps69
    go_wp2
    go_ret
    exact ⟨rfl, rfl⟩
  · have h3 : (m != 0) = true := by simp [h0]
    have hb1 : ¬ b < 0 := by omega
    by_cases a1 : m < 0
    · have hr : decide (m < 0) = true := decide_eq_true a1
      rw [hr]
      clear hr h0
      go_enter Tryz.func69, Tryz.ntmps69
      go_wp2
      go_ret
      exact ⟨rfl, rfl⟩
    · have hr : decide (m < 0) = false := decide_eq_false a1
      rw [hr]
      clear hr h0
      go_enter Tryz.func69, Tryz.ntmps69
      go_wp2
      go_ret
      exact ⟨rfl, rfl⟩

theorem idiv_down {a b : Int} (hb : 0 < b) (ha : -9223372036854775808 ≤ a) (ha' : a ≤ 9223372036854775807) : -9223372036854775808 ≤ a / b ∧ a / b ≤ 9223372036854775807 := by
  constructor
  · by_cases h : 0 ≤ a
    · have := Int.ediv_nonneg h (show 0 ≤ b by omega); omega
    · rw [Int.le_ediv_iff_mul_le hb]
      have : 9223372036854775808 * 1 ≤ 9223372036854775808 * b := Int.mul_le_mul_of_nonneg_left (by omega) (by omega)
      rw [Int.neg_mul]; omega
  · by_cases h : 0 ≤ a
    · have := Int.ediv_le_self b h; omega
    · have : a / b < 0 := Int.ediv_neg_of_neg_of_pos (by omega) hb
      omega
set_option maxHeartbeats 400000 in
theorem idiv_pos (a b : Int) (w : World) (ha : -9223372036854775808 ≤ a) (ha' : a ≤ 9223372036854775807) (hb : 0 < b) :
    Calls Tryz.prog 104 #[.int .i64 a, .int .i64 b] w fun e w' => e = .returned (.tuple #[.int .i64 (a / b), .int .i64 0]) ∧ w = w' := by
  have hb0 : (b == 0) = false := by simp; omega
  have hb1 : (b == -1) = false := by simp; omega
  obtain ⟨t1, t2, t3, t4, t5⟩ := tdm a b hb
  have hd := idiv_down hb ha ha'
  have htest : (a == -9223372036854775808) = false ∨ (a == -9223372036854775808) = true := by cases (a == -9223372036854775808) <;> simp
  have HR := Lib.hid (rup_pos (a.tmod b) b)
  by_cases hr : a.tmod b < 0
  · have he := t2 hr
    have hx : decide (a.tmod b < 0) = true := decide_eq_true hr
    rw [hx] at HR
    have han : a < 0 := by
      by_cases h : 0 ≤ a
      · have := Int.tmod_nonneg b h; omega
      · omega
    have hneg : a / b < 0 := Int.ediv_neg_of_neg_of_pos han hb
    have HV : Hid (a.tdiv b - 1 = a / b) := he.symm
    have hq0 : -9223372036854775807 ≤ a.tdiv b := by omega
    have hq1 : a.tdiv b ≤ 0 := by omega
    clear hr he hx t1 t2 t3 t4 t5 hd hneg han
    rcases htest with ht | ht
    all_goals
      go_enter Tryz.func104, Tryz.ntmps104
      go_wp2_with (go_at_call 69; refine (HR.out _ hb).mono ?_; rintro e w' ⟨rfl, rfl⟩)
      go_ret2
      exact ⟨ret_2 HV.out rfl, rfl⟩
  · have he := t3 (by omega)
    have hx : decide (a.tmod b < 0) = false := decide_eq_false hr
    rw [hx] at HR
    have HV : Hid (a.tdiv b = a / b) := he.symm
    have hq0 : -9223372036854775808 ≤ a.tdiv b := by omega
    have hq1 : a.tdiv b ≤ 9223372036854775807 := by omega
    clear hr he hx t1 t2 t3 t4 t5 hd
    rcases htest with ht | ht
    all_goals
      go_enter Tryz.func104, Tryz.ntmps104
      go_wp2_with (go_at_call 69; refine (HR.out _ hb).mono ?_; rintro e w' ⟨rfl, rfl⟩)
      go_ret2
      exact ⟨ret_2 HV.out rfl, rfl⟩
end Go.Proofs.YtiemlpmhhbmfiaaGreatDoor
/- ints.Mod where the divisor is positive: the remainder is not below 0. -/
namespace Go.Proofs.YtiemlpmhhbmfiaaGreatDoor
open Go.RowKit

theorem imod_pos (a b : Int) (w : World) (hb : 0 < b) (hb' : b ≤ 9223372036854775807) :
    Calls Tryz.prog 42 #[.int .i64 a, .int .i64 b] w fun e w' => e = .returned (.tuple #[.int .i64 (a % b), .int .i64 0]) ∧ w = w' := by
  have hb0 : (b == 0) = false := by simp; omega
  obtain ⟨t1, t2, t3, t4, t5⟩ := tdm a b hb
  have hdm := Int.mul_ediv_add_emod a b
  have HR := Lib.hid (rup_pos (a.tmod b) b)
  by_cases hr : a.tmod b < 0
  · have he := t2 hr
    have hx : decide (a.tmod b < 0) = true := decide_eq_true hr
    rw [hx] at HR
    have HV : Hid (a.tmod b + b = a % b) := by
      show _ = _
      rw [he, Int.mul_sub] at hdm; omega
    clear he hx t1 t2 t3 hdm
    go_enter Tryz.func42, Tryz.ntmps42
    go_wp2_with (go_at_call 69; refine (HR.out _ hb).mono ?_; rintro e w' ⟨rfl, rfl⟩)
    go_ret2
    exact ⟨ret_2 HV.out rfl, rfl⟩
  · have he := t3 (by omega)
    have hx : decide (a.tmod b < 0) = false := decide_eq_false hr
    rw [hx] at HR
    have HV : Hid (a.tmod b = a % b) := by
      show _ = _
      rw [he] at hdm; omega
    clear hr he hx t1 t2 t3 t4 t5 hdm
    go_enter Tryz.func42, Tryz.ntmps42
    go_wp2_with (go_at_call 69; refine (HR.out _ hb).mono ?_; rintro e w' ⟨rfl, rfl⟩)
    go_ret2
    exact ⟨ret_2 HV.out rfl, rfl⟩
end Go.Proofs.YtiemlpmhhbmfiaaGreatDoor
/- The reference of months (circaref05): Add. -/
namespace Go.Proofs.YtiemlpmhhbmfiaaGreatDoor
open Go.RowKit

theorem ret_3 {k k' : IntKind} {a b c d : Int} {x y : Bool} (h : a = b) (h' : c = d) (h'' : x = y) : Ending.returned (.tuple #[.int k a, .int k' c, .bool x]) = .returned (.tuple #[.int k b, .int k' d, .bool y]) := by rw [h, h', h'']
def addV (y m k v : Int) : Int := if yr (adY y m k) = true then v else 0

end Go.Proofs.YtiemlpmhhbmfiaaGreatDoor
/- Package years, its own functions: a quotient downwards; the leap years ahead of a year; the first day of one. -/
namespace Go.Proofs.YtiemlpmhhbmfiaaGreatDoor
open Go.RowKit

/-- The cells of the table of leap rules. -/
def rules : Array Value := #[.int .i64 4, .int .i64 1, .int .i64 100, .int .i64 (-1), .int .i64 400, .int .i64 1]
/-- The table of leap rules is laid, as far as the calls of package years lean on it. -/
def StartY (w : World) : Prop := ∃ t fr, w.heap[1]? = some (.cells rules t fr)
theorem StartY.size {w : World} (h : StartY w) : 1 < w.heap.size := by
  obtain ⟨t, fr, h⟩ := h
  rcases Nat.lt_or_ge 1 w.heap.size with h' | h'
  · exact h'
  · rw [Array.getElem?_eq_none h'] at h; cases h
theorem StartY.below {w w' : World} (h : StartY w) (hb : Below w.heap.size w w') : StartY w' := by
  have hs := h.size
  obtain ⟨t, fr, h⟩ := h
  exact ⟨t, fr, (hb.block _ hs).trans h⟩
def yE (y : Int) : Int := if yr y = true then 0 else 6
def yV (y v : Int) : Int := if yr y = true then v else 0
theorem yE_in {y : Int} (h : yr y = true) : yE y = 0 := if_pos h
theorem yE_out {y : Int} (h : yr y = false) : yE y = 6 := if_neg (by rw [h]; decide)
theorem yV_in {y : Int} (h : yr y = true) (v : Int) : yV y v = v := if_pos h
theorem yV_out {y : Int} (h : yr y = false) (v : Int) : yV y v = 0 := if_neg (by rw [h]; decide)
def lpsE (a b : Int) : Int := if yr a = true ∧ yr b = true then 0 else 6
def lpsV (a b : Int) : Int := if yr a = true ∧ yr b = true then lpsI a b else 0

theorem floor_any (n d : Int) (w : World) (h0 : -9223372036854775808 ≤ n) (h1 : n ≤ 9223372036854775807) (hd : 0 < d) :
    Calls Tryz.prog 86 #[.int .i64 n, .int .i64 d] w fun e w' => e = .returned (.int .i64 (n / d)) ∧ w = w' := by
  have HD := Lib.hid (idiv_pos n d)
  go_enter Tryz.func86, Tryz.ntmps86
  go_wp2_with (go_at_call 104; refine (HD.out _ h0 h1 hd).mono ?_; rintro e w' ⟨rfl, rfl⟩)
  go_ret
  exact ⟨rfl, rfl⟩

theorem wpl_load_rules {ops : Array Oper} {rest : List Oper} {o : Oper} {a : Act} {w : World} {Q : Exit → Act → World → Prop} (hgd : o.guard = none) (ho : o.op = .load 133 (.global 1))
    (hg : StartY w) (h : wpList Tryz.prog ops Q rest (a.put o.dst (.agg rules)) w) : wpList Tryz.prog ops Q (o :: rest) a w := by
  obtain ⟨t, fr, hg⟩ := hg
  exact wpList_load_row hgd 133 _ ho 1 rfl t _ fr _ hg Tryz.underlying133 rfl (by kernel_rfl) h
/-- What the leap years ahead of a year come to, rule by rule. -/
def lbk (y : Int) : Nat → Int
  | 0 => 0
  | 1 => (y - 1) / 4 + 1
  | 2 => ((y - 1) / 4 + 1) - ((y - 1) / 100 + 1)
  | _ => lps (y - 1) + 1
theorem lbk_3 (y : Int) : ((y - 1) / 4 + 1) - ((y - 1) / 100 + 1) + ((y - 1) / 400 + 1) = lps (y - 1) + 1 := by unfold lps; omega
set_option maxHeartbeats 800000 in
theorem lb_any (y : Int) (w : World) (hs : StartY w) (h0 : -100000000000000000 ≤ y) (h1 : y ≤ 100000000000000000) :
    Calls Tryz.prog 85 #[.int .i64 y] w fun e w' => e = .returned (.int .i64 (lps (y - 1) + 1)) ∧ Below w.heap.size w w' := by
  have HF := Lib.hid (fun d w => floor_any (y - 1) d w (by omega) (by omega))
  have HY := Lib.hid (lbk_3 y)
  have hb4 := idiv_down (a := y - 1) (b := 4) (by omega) (by omega) (by omega)
  have q4 : -25000000000000001 ≤ (y - 1) / 4 ∧ (y - 1) / 4 ≤ 25000000000000001 := by omega
  have q100 : -25000000000000001 ≤ (y - 1) / 100 ∧ (y - 1) / 100 ≤ 25000000000000001 := by omega
  have q400 : -25000000000000001 ≤ (y - 1) / 400 ∧ (y - 1) / 400 ≤ 25000000000000001 := by omega
  obtain ⟨a, ha⟩ : ∃ a, (y - 1) / 4 = a := ⟨_, rfl⟩
  obtain ⟨b, hb⟩ : ∃ b, (y - 1) / 100 = b := ⟨_, rfl⟩
  obtain ⟨c, hc⟩ : ∃ c, (y - 1) / 400 = c := ⟨_, rfl⟩
  have H4 : Hid (∀ w, Calls Tryz.prog 86 #[.int .i64 (y - 1), .int .i64 4] w fun e w' => e = .returned (.int .i64 a) ∧ w = w') := fun w => by rw [← ha]; exact HF.out _ _ (by omega)
  have H100 : Hid (∀ w, Calls Tryz.prog 86 #[.int .i64 (y - 1), .int .i64 100] w fun e w' => e = .returned (.int .i64 b) ∧ w = w') := fun w => by rw [← hb]; exact HF.out _ _ (by omega)
  have H400 : Hid (∀ w, Calls Tryz.prog 86 #[.int .i64 (y - 1), .int .i64 400] w fun e w' => e = .returned (.int .i64 c) ∧ w = w') := fun w => by rw [← hc]; exact HF.out _ _ (by omega)
  rw [ha] at q4; rw [hb] at q100; rw [hc] at q400; rw [ha, hb, hc] at HY
  obtain ⟨L, hL⟩ : ∃ L, lps (y - 1) + 1 = L := ⟨_, rfl⟩
  rw [hL] at HY ⊢
  clear ha hb hc HF hL hb4
  obtain ⟨q41, q42⟩ := q4
  obtain ⟨q1, q2⟩ := q100
  obtain ⟨q3, q5⟩ := q400
  go_enter Tryz.func85, Tryz.ntmps85
  go_wp2_with (refine wpl_load_rules rfl rfl hs ?_)
  have i0 : ∀ w, (Instr.index 133 (.agg rules) (.int .i64 0)).run Tryz.prog w = .ok (.agg #[.int .i64 4, .int .i64 1]) w := fun _ => by kernel_rfl
  have i1 : ∀ w, (Instr.index 133 (.agg rules) (.int .i64 1)).run Tryz.prog w = .ok (.agg #[.int .i64 100, .int .i64 (-1)]) w := fun _ => by kernel_rfl
  have i2 : ∀ w, (Instr.index 133 (.agg rules) (.int .i64 2)).run Tryz.prog w = .ok (.agg #[.int .i64 400, .int .i64 1]) w := fun _ => by kernel_rfl
  go_loopw [3, 8] (fun lv iv wr => ∃ k : Nat, k ≤ 3 ∧ iv = .int .i64 k ∧ lv = .int .i64 (if k = 0 then 0 else if k = 1 then a + 1 else if k = 2 then (a + 1) - (b + 1) else L) ∧ Below w.heap.size w wr) (fun _ iv _ => 3 - (intOf iv).toNat)
  case atStart => exact ⟨0, by omega, rfl, rfl, Below.refl _ _⟩
  case round =>
    obtain ⟨k, hk, hi, hl, hX⟩ := hrel
    have hk4 : k = 0 ∨ k = 1 ∨ k = 2 ∨ k = 3 := by omega
    rcases hk4 with rfl | rfl | rfl | rfl
    · replace hi : _ = Value.int .i64 0 := hi
      replace hl : _ = Value.int .i64 0 := hl
      subst hi hl
      go_wp2_with (go_at_call 86; refine (H4.out _).mono ?_; rintro e w' ⟨rfl, rfl⟩)
      go_roundw
      case rel => exact ⟨1, by omega, rfl, rfl, hX.alloc hX.size _⟩
      case measure => simp [intOf]
    · replace hi : _ = Value.int .i64 1 := hi
      replace hl : _ = Value.int .i64 (a + 1) := hl
      subst hi hl
      go_wp2_with (go_at_call 86; refine (H100.out _).mono ?_; rintro e w' ⟨rfl, rfl⟩)
      go_roundw
      case rel => exact ⟨2, by omega, rfl, by go_num, hX.alloc hX.size _⟩
      case measure => simp [intOf]
    · replace hi : _ = Value.int .i64 2 := hi
      replace hl : _ = Value.int .i64 (a + 1 - (b + 1)) := hl
      subst hi hl
      go_wp2_with (go_at_call 86; refine (H400.out _).mono ?_; rintro e w' ⟨rfl, rfl⟩)
      go_roundw
      case rel => exact ⟨3, by omega, rfl, by rw [← HY.out]; go_num, hX.alloc hX.size _⟩
      case measure => simp [intOf]
    · replace hi : _ = Value.int .i64 3 := hi
      replace hl : _ = Value.int .i64 L := hl
      subst hi hl
      go_wp2
      go_ret
      exact ⟨rfl, hX⟩

theorem lps_bd (y : Int) (h0 : -100000000000000000 ≤ y) (h1 : y ≤ 100000000000000000) : -25000000000000002 ≤ lps y ∧ lps y ≤ 25000000000000002 := by unfold lps; omega
/-- The program's own first day of a year. -/
theorem pst_any (y : Int) (w : World) (hs : StartY w) (h0 : -20000000000000000 ≤ y) (h1 : y ≤ 20000000000000000) :
    Calls Tryz.prog 65 #[.int .i64 y] w fun e w' => e = .returned (.int .i64 (stI y)) ∧ Below w.heap.size w w' := by
  have HL := Lib.hid (fun w hs => lb_any y w hs (by omega) (by omega))
  have hb := lps_bd (y - 1) (by omega) (by omega)
  have HS : Hid (365 * y + (lps (y - 1) + 1) = stI y) := by show _ = _; unfold stI; omega
  obtain ⟨L, hL⟩ : ∃ L, lps (y - 1) = L := ⟨_, rfl⟩
  rw [hL] at hb HL HS
  clear hL
  obtain ⟨b1, b2⟩ := hb
  go_enter Tryz.func65, Tryz.ntmps65
  go_wp2_with (go_at_call 85; refine (HL.out _ hs).mono ?_; rintro e w' ⟨rfl, hb⟩)
  go_ret
  exact ⟨ret_i HS.out, hb⟩

theorem qcheck_any (y : Int) (w : World) : Calls Tryz.prog 64 #[.int .i64 y] w fun e w' => e = .returned (.int .i64 (yE y)) ∧ w = w' := by
  by_cases h1 : y < -10000000000000000
  · have hr : yE y = 6 := yE_out ((yr_not y).2 (by omega))
    rw [hr]
    clear hr
    go_enter Tryz.func64, Tryz.ntmps64
    go_wp2
    go_ret
    exact ⟨rfl, rfl⟩
  · by_cases h2 : 10000000000000000 < y
    · have hr : yE y = 6 := yE_out ((yr_not y).2 (by omega))
      rw [hr]
      clear hr
      go_enter Tryz.func64, Tryz.ntmps64
      go_wp2
      go_ret
      exact ⟨rfl, rfl⟩
    · have hr : yE y = 0 := yE_in ((yr_iff y).2 (by omega))
      rw [hr]
      clear hr
      go_enter Tryz.func64, Tryz.ntmps64
      go_wp2
      go_ret
      exact ⟨rfl, rfl⟩
theorem lps_leap (y : Int) : decide (lps (y - 1) < lps (y + 1 - 1)) = lpB y := by
  have := lps_succ y
  rw [show y + 1 - 1 = y by omega]
  have hl := lenI_lp y
  have hbd := lenI_bd y
  cases h : lpB y
  · rw [h] at hl; simp at hl; rw [decide_eq_false_iff_not]; omega
  · rw [h] at hl; simp at hl; rw [decide_eq_true_eq]; omega
theorem qleap_any (y : Int) (w : World) (hs : StartY w) (h0 : -9223372036854775808 ≤ y) (h1 : y ≤ 9223372036854775807) :
    Calls Tryz.prog 68 #[.int .i64 y] w fun e w' => e = .returned (.tuple #[.bool (yr y && lpB y), .int .i64 (yE y)]) ∧ Below w.heap.size w w' := by
  have HC := Lib.hid (qcheck_any y)
  cases hy : yr y
  · rw [yE_out hy] at HC ⊢
    go_enter Tryz.func68, Tryz.ntmps68
    go_wp2_with (go_at_call 64; refine (HC.out _).mono ?_; rintro e w' ⟨rfl, rfl⟩)
    go_ret2
    exact ⟨rfl, Below.refl _ _⟩
  · rw [yE_in hy] at HC ⊢
    have hb := (yr_iff y).1 hy
    have HL := Lib.hid (lps_leap y)
    have H1 := Lib.hid (fun w hs => lb_any (y + 1) w hs (by omega) (by omega))
    have H2 := Lib.hid (fun w hs => lb_any y w hs (by omega) (by omega))
    have b1 := lps_bd (y + 1 - 1) (by omega) (by omega)
    have b2 := lps_bd (y - 1) (by omega) (by omega)
    rw [Bool.true_and]
    generalize lps (y + 1 - 1) = p at *
    generalize lps (y - 1) = q at *
    generalize lpB y = B at *
    go_enter Tryz.func68, Tryz.ntmps68
    go_wp2_with (first
      | (go_at_call 64; refine (HC.out _).mono ?_; rintro e w' ⟨rfl, rfl⟩)
      | (go_at_call 85; refine (H2.out _ (hs.below hb1)).mono ?_; rintro e w2 ⟨rfl, hb2⟩)
      | (go_at_call 85; refine (H1.out _ hs).mono ?_; rintro e w1 ⟨rfl, hb1⟩))
    go_ret2
    exact ⟨by show Ending.returned (.tuple #[.bool (decide (q < p)), .int .i64 0]) = _; rw [HL.out], hb1.trans (hb2.mono hb1.size)⟩

theorem qlen_any (y : Int) (w : World) (hs : StartY w) (h0 : -9223372036854775808 ≤ y) (h1 : y ≤ 9223372036854775807) :
    Calls Tryz.prog 41 #[.int .i64 y] w fun e w' => e = .returned (.tuple #[.int .i64 (yV y (lenI y)), .int .i64 (yE y)]) ∧ Below w.heap.size w w' := by
  have HL := Lib.hid (qleap_any y w hs h0 h1)
  cases hy : yr y
  · rw [yE_out hy, yV_out hy]
    rw [yE_out hy, hy, Bool.false_and] at HL
    clear hy
    go_enter Tryz.func41, Tryz.ntmps41
    go_wp2_with (go_at_call 68; refine HL.out.mono ?_; rintro e w' ⟨rfl, hb⟩)
    go_ret2
    exact ⟨rfl, hb⟩
  · rw [yE_in hy, yV_in hy, lenI_lp]
    rw [yE_in hy, hy, Bool.true_and] at HL
    clear hy
    cases hB : lpB y
    all_goals
      rw [hB] at HL
      clear hB
      go_enter Tryz.func41, Tryz.ntmps41
      go_wp2_with (go_at_call 68; refine HL.out.mono ?_; rintro e w' ⟨rfl, hb⟩)
      go_ret2
      exact ⟨rfl, hb⟩
theorem qstart_any (y : Int) (w : World) (hs : StartY w) :
    Calls Tryz.prog 37 #[.int .i64 y] w fun e w' => e = .returned (.tuple #[.int .i64 (yV y (stI y)), .int .i64 (yE y)]) ∧ Below w.heap.size w w' := by
  have HC := Lib.hid (qcheck_any y)
  cases hy : yr y
  · rw [yE_out hy] at HC ⊢
    rw [yV_out hy]
    clear hy
    go_enter Tryz.func37, Tryz.ntmps37
    go_wp2_with (go_at_call 64; refine (HC.out _).mono ?_; rintro e w' ⟨rfl, rfl⟩)
    go_ret2
    exact ⟨rfl, Below.refl _ _⟩
  · rw [yE_in hy] at HC ⊢
    rw [yV_in hy]
    have hb := (yr_iff y).1 hy
    have HS := Lib.hid (fun w hs => pst_any y w hs (by omega) (by omega))
    generalize stI y = S at *
    clear hy
    go_enter Tryz.func37, Tryz.ntmps37
    go_wp2_with (first
      | (go_at_call 64; refine (HC.out _).mono ?_; rintro e w' ⟨rfl, rfl⟩)
      | (go_at_call 65; refine (HS.out _ hs).mono ?_; rintro e w1 ⟨rfl, hb1⟩))
    go_ret2
    exact ⟨rfl, hb1⟩
end Go.Proofs.YtiemlpmhhbmfiaaGreatDoor
/- Package years: the year of a day: the closure that is searched by, the search, and Of. -/
namespace Go.Proofs.YtiemlpmhhbmfiaaGreatDoor
open Go.RowKit

theorem clo_any (a1 a2 : Addr) (day first i p q : Int) (W : World) (hs : StartY W) (h1 : a1.block < W.heap.size) (h2 : a2.block < W.heap.size)
    (c1 : W.cell? a1 = some (.int .i64 day)) (c2 : W.cell? a2 = some (.int .i64 first)) (hp : p = first + i) (hq : q = p + 1) (hb0 : -20000000000000000 ≤ first) (hb1 : first ≤ 19000000000000000) (hi0 : 0 ≤ i) (hi1 : i ≤ 1000) :
    Calls Tryz.prog 87 #[.int .i64 i, .pointer (some a1), .pointer (some a2)] W fun e w' => e = .returned (.bool (decide (day < stI q))) ∧ Below W.heap.size W w' := by
  have KC : Hid (∀ X, Below W.heap.size W X → Calls Tryz.prog 65 #[.int .i64 q] X fun e w' => e = .returned (.int .i64 (stI q)) ∧ Below W.heap.size W w') :=
    fun X hX => (pst_any q X (hs.below hX) (by omega) (by omega)).mono fun _ _ ⟨h1, h2⟩ => ⟨h1, hX.trans (h2.mono hX.size)⟩
  have w1 : IntKind.i64.wrap (first + i) = p := by rw [hp]; exact IntWalk.i64_in _ (by omega)
  have w2 : IntKind.i64.wrap (p + 1) = q := by rw [hq]; exact IntWalk.i64_in _ (by omega)
  clear hp hq hb0 hb1 hi0 hi1 hs
  generalize stI q = S at *
  go_enter Tryz.func87, Tryz.ntmps87
  go_wp2
  go_region_held3 (fun w' => w'.cell? a1 = some (.int .i64 day) ∧ w'.cell? a2 = some (.int .i64 first)) (go_keep)
    ((go_at_call 65; ((with_reducible refine (KC.out _ (by go_grown)).mono ?_); rintro e x1 ⟨rfl, hX1⟩; have k0 := (hX1.cell (p := a1) h1).trans c1; have k1 := (hX1.cell (p := a2) h2).trans c2)))
  all_goals
    go_wp2_with fail
    go_ret
    exact ⟨rfl, hX1⟩

/-- sort.Search with that closure: a place where it turns. -/
def InvS (n : Nat) (p : Nat → Bool) (lo hi : Nat) : Prop := (lo = 0 ∨ p (lo - 1) = false) ∧ (hi = n ∨ p hi = true)
set_option maxHeartbeats 1000000 in
theorem srch_any (a1 a2 : Addr) (n : Nat) (p : Nat → Bool) (w : World) (hn : n < 4611686018427387904)
    (hf : ∀ X, Below w.heap.size w X → ∀ i : Nat, i < n → Calls Tryz.prog 87 #[.int .i64 i, .pointer (some a1), .pointer (some a2)] X fun e w' => e = .returned (.bool (p i)) ∧ Below w.heap.size w w') :
    Calls Tryz.prog 88 #[.int .i64 n, .func (.func 87) #[] #[.pointer (some a1), .pointer (some a2)]] w fun e w' => ∃ r : Nat, e = .returned (.int .i64 r) ∧ r ≤ n ∧ InvS n p r r ∧ Below w.heap.size w w' := by
  have HF := Lib.hid hf
  clear hf
  go_enter Tryz.func88, Tryz.ntmps88
  go_wp2
  go_loopg [5, 6] n (fun kx s5 s6 wr => ∃ (lo hi : Nat), s5 = .int .i64 lo ∧ s6 = .int .i64 hi ∧ lo ≤ hi ∧ hi ≤ n ∧ hi - lo ≤ kx ∧ Below w.heap.size w wr ∧ Hid (InvS n p lo hi))
  case atStart => exact ⟨0, n, rfl, rfl, Nat.zero_le _, Nat.le_refl _, by omega, Below.refl _ _, ⟨.inl rfl, .inl rfl⟩⟩
  case round =>
    obtain ⟨lo, hi, rfl, rfl, hlh, hin, hg, hX, I⟩ := hrel
    by_cases hlt : lo < hi
    · have h1 : (lo : Int) < (hi : Int) := by omega
      have h2 : (lo : Int) + (hi : Int) ≤ 9223372036854775807 := by omega
      have hc := fun X hX => HF.out X hX ((lo + hi) / 2) (by omega)
      rw [show (((lo + hi) / 2 : Nat) : Int) = ((lo : Int) + (hi : Int)) / 2 by omega] at hc
      cases hp : p ((lo + hi) / 2) <;> rw [hp] at hc
      · have HC := Lib.hid hc
        have HP := Lib.hid hp
        clear hp hc
        go_wp2_with (go_at_call 87; refine (HC.out _ hX).mono ?_; rintro e w' ⟨rfl, hb⟩)
        go_roundg (hi - ((lo + hi) / 2 + 1))
        case measure => omega
        case rel =>
          exact ⟨(lo + hi) / 2 + 1, hi, by rw [show ((lo : Int) + (hi : Int)) / 2 + 1 = (((lo + hi) / 2 + 1 : Nat) : Int) by omega], rfl, by omega, hin, Nat.le_refl _, hb, ⟨.inr HP.out, I.out.2⟩⟩
      · have HC := Lib.hid hc
        have HP := Lib.hid hp
        clear hp hc
        go_wp2_with (go_at_call 87; refine (HC.out _ hX).mono ?_; rintro e w' ⟨rfl, hb⟩)
        go_roundg ((lo + hi) / 2 - lo)
        case measure => omega
        case rel =>
          exact ⟨lo, (lo + hi) / 2, rfl, by rw [show ((lo : Int) + (hi : Int)) / 2 = (((lo + hi) / 2 : Nat) : Int) by omega], by omega, by omega, Nat.le_refl _, hb, ⟨I.out.1, .inr HP.out⟩⟩
    · obtain rfl : hi = lo := by omega
      go_wp2
      go_ret
      exact ⟨hi, rfl, hin, I.out, hX⟩

theorem yrOf_in (d : Int) : (-3652425000000000000 ≤ d ∧ d < 3652425000000000366) ↔ yr (yrOf d) = true := by
  obtain ⟨h1, h2⟩ := yrOf_spec d
  rw [yr_iff]
  have e1 : stI (-10000000000000000) = -3652425000000000000 := by decide
  have e2 : stI 10000000000000001 = 3652425000000000366 := by decide
  constructor
  · rintro ⟨h3, h4⟩
    constructor
    · rcases Int.lt_or_le (yrOf d) (-10000000000000000) with h | h
      · have := stI_le (show yrOf d + 1 ≤ -10000000000000000 by omega); omega
      · exact h
    · rcases Int.lt_or_le 10000000000000000 (yrOf d) with h | h
      · have := stI_le (show 10000000000000001 ≤ yrOf d by omega); omega
      · exact h
  · rintro ⟨h3, h4⟩
    have := stI_le h3
    have := stI_le (show yrOf d + 1 ≤ 10000000000000001 by omega)
    omega
/-- Where the search within 400 years ends. -/
theorem srch_end {day : Int} {r : Nat} (h : InvS 400 (fun i => decide (day < stI (400 * (day / 146097) + (i : Int) + 1))) r r) (_ : r ≤ 400) : 400 * (day / 146097) + (r : Int) = yrOf day := by
  obtain ⟨h1, h2⟩ := h
  have h0 : 0 ≤ day % 146097 := Int.emod_nonneg _ (by omega)
  have h3 : day % 146097 < 146097 := Int.emod_lt_of_pos _ (by omega)
  have h4 := Int.mul_ediv_add_emod day 146097
  have s0 := stI_400 0 (day / 146097)
  have s4 := stI_400 400 (day / 146097)
  have e0 : stI 0 = 0 := stI_zero
  have e4 : stI 400 = 146097 := by decide
  refine (yrOf_eq ?_ ?_).symm
  · rcases h1 with h1 | h1
    · subst h1
      rw [show 400 * (day / 146097) + ((0 : Nat) : Int) = 0 + 400 * (day / 146097) by omega]; omega
    · by_cases hz : r = 0
      · subst hz
        rw [show 400 * (day / 146097) + ((0 : Nat) : Int) = 0 + 400 * (day / 146097) by omega]; omega
      · rw [decide_eq_false_iff_not] at h1
        rw [show 400 * (day / 146097) + ((r - 1 : Nat) : Int) + 1 = 400 * (day / 146097) + (r : Int) by omega] at h1
        omega
  · rcases h2 with h2 | h2
    · subst h2
      have := stI_le (show 400 + 400 * (day / 146097) ≤ 400 * (day / 146097) + ((400 : Nat) : Int) + 1 by omega)
      omega
    · rw [decide_eq_true_eq] at h2
      exact h2

theorem of_in (day : Int) (w : World) (hs : StartY w) (h0 : -3652425000000000000 ≤ day) (h1 : day < 3652425000000000366) :
    Calls Tryz.prog 67 #[.int .i64 day] w fun e w' => e = .returned (.tuple #[.int .i64 (yrOf day), .int .i64 0]) ∧ Below w.heap.size w w' := by
  have hmf : ∀ (fn : Fn) (first cap : Array Value) (w : World), (Instr.makeFunc fn first cap).run Tryz.prog w = .ok (.func fn first cap) w := fun _ _ _ _ => rfl
  obtain ⟨F, hF⟩ : ∃ F, 400 * (day / 146097) = F := ⟨_, rfl⟩
  have hF2 : day / 146097 * 400 = F := by omega
  have hFb : -10000000000000800 ≤ F ∧ F ≤ 10000000000000800 := by omega
  obtain ⟨W, hW⟩ : ∃ W, W = w.alloc (.cells #[.int .i64 day] 2) := ⟨_, rfl⟩
  have hbW : Below w.heap.size w W := by rw [hW]; exact (Below.refl _ _).alloc (Nat.le_refl _) _
  have hsW := hs.below hbW
  have hc : W.cell? ⟨w.heap.size, 0, none⟩ = some (.int .i64 day) := by rw [hW]; rw [World.cell?_alloc_at _ _ _ _ rfl]; rfl
  have hlt : w.heap.size < W.heap.size := by rw [hW]; simp
  have e1 : stI (-10000000000000000) = -3652425000000000000 := by decide
  have e2 : stI 10000000000000001 = 3652425000000000366 := by decide
  have K1 : Hid (∀ X, Below W.heap.size W X → Calls Tryz.prog 65 #[.int .i64 (-10000000000000000)] X fun e w' => e = .returned (.int .i64 (-3652425000000000000)) ∧ Below W.heap.size W w') :=
    fun X hX => by rw [← e1]; exact (pst_any _ X (hsW.below hX) (by omega) (by omega)).mono fun _ _ ⟨h1, h2⟩ => ⟨h1, hX.trans (h2.mono hX.size)⟩
  have K2 : Hid (∀ X, Below W.heap.size W X → Calls Tryz.prog 65 #[.int .i64 10000000000000001] X fun e w' => e = .returned (.int .i64 3652425000000000366) ∧ Below W.heap.size W w') :=
    fun X hX => by rw [← e2]; exact (pst_any _ X (hsW.below hX) (by omega) (by omega)).mono fun _ _ ⟨h1, h2⟩ => ⟨h1, hX.trans (h2.mono hX.size)⟩
  have d1 : decide (day < -3652425000000000000) = false := decide_eq_false (by omega)
  have d2 : decide (3652425000000000366 ≤ day) = false := decide_eq_false (by omega)
  have HF := Lib.hid hF
  have HF2 := Lib.hid hF2
  clear e1 e2 hF hF2
  go_enter Tryz.func67, Tryz.ntmps67
  go_upto_region 1 with fail
  rw [← hW]
  clear hW
  go_cut [13] (fun s13 wx => s13 = .bool false ∧ Below W.heap.size W wx)
  case first =>
    go_region_held3 (fun w' => w'.cell? ⟨w.heap.size, 0, none⟩ = some (.int .i64 day)) (go_keep)
      (first
      | (go_at_call 65; ((with_reducible refine (K1.out _ (by go_grown)).mono ?_); rintro e x1 ⟨rfl, hX1⟩; have k0 := (hX1.cell (p := ⟨w.heap.size, 0, none⟩) hlt).trans hc))
      | (go_at_call 65; ((with_reducible refine (K2.out _ (by go_grown)).mono ?_); rintro e x2 ⟨rfl, hX2⟩; have k1 := (hX2.cell (p := ⟨w.heap.size, 0, none⟩) hlt).trans hc)))
    all_goals
      go_wp2_with fail
      go_meet
      exact ⟨rfl, by first | exact hX2 | exact hX1⟩
  case rest =>
    obtain ⟨rfl, hX⟩ := hcut
    clear K1 K2 d1 d2
    have c1 := (hX.cell (p := ⟨w.heap.size, 0, none⟩) hlt).trans hc
    have hlx : w.heap.size < wc.heap.size := by have := hX.size; omega
    go_upto_region 5 with (go_at_call 86; refine (floor_any _ _ _ (by omega) (by omega) (by omega)).mono ?_; rintro e w' ⟨rfl, rfl⟩)
    rw [HF2.out]
    obtain ⟨W2, hW2⟩ : ∃ W2, W2 = wc.alloc (.cells #[.int .i64 F] 2) := ⟨_, rfl⟩
    rw [← hW2]
    have hb2 : Below W.heap.size W W2 := by rw [hW2]; exact hX.alloc hX.size _
    have k1 := (hb2.cell (p := ⟨w.heap.size, 0, none⟩) hlt).trans hc
    have k2 : W2.cell? ⟨wc.heap.size, 0, none⟩ = some (.int .i64 F) := by rw [hW2]; rw [World.cell?_alloc_at _ _ _ _ rfl]; rfl
    have hl2 : wc.heap.size < W2.heap.size := by rw [hW2]; simp
    have hs2 := hsW.below hb2
    obtain ⟨Y, hY⟩ : ∃ Y, yrOf day = Y := ⟨_, rfl⟩
    obtain ⟨R, hR⟩ : ∃ R, Y - F = R := ⟨_, rfl⟩
    have hYb := yrOf_bd day (by omega)
    have KS : Hid (∀ X, Below W2.heap.size W2 X → Calls Tryz.prog 88 #[.int .i64 400, .func (.func 87) #[] #[.pointer (some ⟨w.heap.size, 0, none⟩), .pointer (some ⟨wc.heap.size, 0, none⟩)]] X fun e w' => e = .returned (.int .i64 R) ∧ Below W2.heap.size W2 w') := by
      intro X hX2
      refine (srch_any ⟨w.heap.size, 0, none⟩ ⟨wc.heap.size, 0, none⟩ 400 (fun i => decide (day < stI (F + (i : Int) + 1))) X (by omega) ?_).mono ?_
      · intro Z hZ i hi
        have hW2Z : Below W2.heap.size W2 Z := hX2.trans (hZ.mono hX2.size)
        have hz := hW2Z.size
        exact (clo_any ⟨w.heap.size, 0, none⟩ ⟨wc.heap.size, 0, none⟩ day F i _ _ Z (hs2.below hW2Z) (show w.heap.size < Z.heap.size by omega) (show wc.heap.size < Z.heap.size by omega) ((hW2Z.cell (p := ⟨w.heap.size, 0, none⟩) (show w.heap.size < W2.heap.size by omega)).trans k1) ((hW2Z.cell (p := ⟨wc.heap.size, 0, none⟩) hl2).trans k2) rfl rfl (by omega) (by omega) (by omega) (by omega)).mono fun _ _ ⟨g1, g2⟩ => ⟨g1, hZ.trans (g2.mono hZ.size)⟩
      · rintro e w' ⟨r, rfl, hr, hI, hb⟩
        refine ⟨ret_i ?_, hX2.trans (hb.mono hX2.size)⟩
        rw [← HF.out] at hI
        have := srch_end hI hr
        have := HF.out
        omega
    have wS : IntKind.i64.wrap (F + R) = Y := by rw [show F + R = Y by omega]; exact IntWalk.i64_in _ (by omega)
    have hfin : Below w.heap.size w W2 := hbW.trans (hb2.mono hbW.size)
    clear hR hYb hW2 hX hs2 hb2 c1 hFb HF HF2 hmf hlx
    go_region_held3 (fun w' => w'.cell? ⟨wc.heap.size, 0, none⟩ = some (.int .i64 F)) (go_keep)
      ((go_at_call 88; ((with_reducible refine (KS.out _ (by go_grown)).mono ?_); rintro e x1 ⟨rfl, hX1⟩; have k3 := (hX1.cell (p := ⟨wc.heap.size, 0, none⟩) hl2).trans k2)))
    all_goals
      go_wp2_with fail
      go_ret2
      exact ⟨ret_2 hY.symm rfl, hfin.trans (hX1.mono hfin.size)⟩
theorem of_lo (day : Int) (w : World) (hs : StartY w) (h : day < -3652425000000000000) :
    Calls Tryz.prog 67 #[.int .i64 day] w fun e w' => e = .returned (.tuple #[.int .i64 0, .int .i64 6]) ∧ Below w.heap.size w w' := by
  obtain ⟨W, hW⟩ : ∃ W, W = w.alloc (.cells #[.int .i64 day] 2) := ⟨_, rfl⟩
  have hbW : Below w.heap.size w W := by rw [hW]; exact (Below.refl _ _).alloc (Nat.le_refl _) _
  have hsW := hs.below hbW
  have hc : W.cell? ⟨w.heap.size, 0, none⟩ = some (.int .i64 day) := by rw [hW]; rw [World.cell?_alloc_at _ _ _ _ rfl]; rfl
  have hlt : w.heap.size < W.heap.size := by rw [hW]; simp
  have e1 : stI (-10000000000000000) = -3652425000000000000 := by decide
  have K1 : Hid (∀ X, Below W.heap.size W X → Calls Tryz.prog 65 #[.int .i64 (-10000000000000000)] X fun e w' => e = .returned (.int .i64 (-3652425000000000000)) ∧ Below W.heap.size W w') :=
    fun X hX => by rw [← e1]; exact (pst_any _ X (hsW.below hX) (by omega) (by omega)).mono fun _ _ ⟨h1, h2⟩ => ⟨h1, hX.trans (h2.mono hX.size)⟩
  have d1 : decide (day < -3652425000000000000) = true := decide_eq_true (by omega)
  clear e1
  go_enter Tryz.func67, Tryz.ntmps67
  go_upto_region 1 with fail
  rw [← hW]
  clear hW
  go_cut [13] (fun s13 wx => s13 = .bool true ∧ Below W.heap.size W wx)
  case first =>
    go_region_with
      ((go_at_call 65; ((with_reducible refine (K1.out _ (by go_grown)).mono ?_); rintro e x1 ⟨rfl, hX1⟩; have k0 := (hX1.cell (p := ⟨w.heap.size, 0, none⟩) hlt).trans hc)))
    all_goals
      go_wp2_with fail
      go_meet
      exact ⟨rfl, hX1⟩
  case rest =>
    obtain ⟨rfl, hX⟩ := hcut
    go_wp2_with fail
    go_ret2
    exact ⟨rfl, hbW.trans (hX.mono hbW.size)⟩

theorem of_hi (day : Int) (w : World) (hs : StartY w) (h : 3652425000000000366 ≤ day) :
    Calls Tryz.prog 67 #[.int .i64 day] w fun e w' => e = .returned (.tuple #[.int .i64 0, .int .i64 6]) ∧ Below w.heap.size w w' := by
  obtain ⟨W, hW⟩ : ∃ W, W = w.alloc (.cells #[.int .i64 day] 2) := ⟨_, rfl⟩
  have hbW : Below w.heap.size w W := by rw [hW]; exact (Below.refl _ _).alloc (Nat.le_refl _) _
  have hsW := hs.below hbW
  have hc : W.cell? ⟨w.heap.size, 0, none⟩ = some (.int .i64 day) := by rw [hW]; rw [World.cell?_alloc_at _ _ _ _ rfl]; rfl
  have hlt : w.heap.size < W.heap.size := by rw [hW]; simp
  have e1 : stI (-10000000000000000) = -3652425000000000000 := by decide
  have K1 : Hid (∀ X, Below W.heap.size W X → Calls Tryz.prog 65 #[.int .i64 (-10000000000000000)] X fun e w' => e = .returned (.int .i64 (-3652425000000000000)) ∧ Below W.heap.size W w') :=
    fun X hX => by rw [← e1]; exact (pst_any _ X (hsW.below hX) (by omega) (by omega)).mono fun _ _ ⟨h1, h2⟩ => ⟨h1, hX.trans (h2.mono hX.size)⟩
  have e2 : stI 10000000000000001 = 3652425000000000366 := by decide
  have K2 : Hid (∀ X, Below W.heap.size W X → Calls Tryz.prog 65 #[.int .i64 10000000000000001] X fun e w' => e = .returned (.int .i64 3652425000000000366) ∧ Below W.heap.size W w') :=
    fun X hX => by rw [← e2]; exact (pst_any _ X (hsW.below hX) (by omega) (by omega)).mono fun _ _ ⟨h1, h2⟩ => ⟨h1, hX.trans (h2.mono hX.size)⟩
  clear e2
  have d1 : decide (day < -3652425000000000000) = false := decide_eq_false (by omega)
  have d2 : decide (3652425000000000366 ≤ day) = true := decide_eq_true (by omega)
  have h0 : -3652425000000000000 ≤ day := by omega
  have hh := Lib.hid h
  clear e1 h
  go_enter Tryz.func67, Tryz.ntmps67
  go_upto_region 1 with fail
  rw [← hW]
  clear hW
  go_cut [13] (fun s13 wx => s13 = .bool true ∧ Below W.heap.size W wx)
  case first =>
    go_region_held3 (fun w' => w'.cell? ⟨w.heap.size, 0, none⟩ = some (.int .i64 day)) (go_keep)
      (first
      | (go_at_call 65; ((with_reducible refine (K1.out _ (by go_grown)).mono ?_); rintro e x1 ⟨rfl, hX1⟩; have k0 := (hX1.cell (p := ⟨w.heap.size, 0, none⟩) hlt).trans hc))
      | (go_at_call 65; ((with_reducible refine (K2.out _ (by go_grown)).mono ?_); rintro e x2 ⟨rfl, hX2⟩; have k1 := (hX2.cell (p := ⟨w.heap.size, 0, none⟩) hlt).trans hc)))
    all_goals
      go_wp2_with fail
      go_meet
      exact ⟨rfl, by first | exact hX2 | exact hX1⟩
  case rest =>
    obtain ⟨rfl, hX⟩ := hcut
    go_wp2_with fail
    go_ret2
    exact ⟨rfl, hbW.trans (hX.mono hbW.size)⟩

theorem qof_any (day : Int) (w : World) (hs : StartY w) :
    Calls Tryz.prog 67 #[.int .i64 day] w fun e w' => e = .returned (.tuple #[.int .i64 (yV (yrOf day) (yrOf day)), .int .i64 (yE (yrOf day))]) ∧ Below w.heap.size w w' := by
  cases h : yr (yrOf day)
  · rw [yE_out h, yV_out h]
    have hn : ¬ (-3652425000000000000 ≤ day ∧ day < 3652425000000000366) := fun h' => by rw [(yrOf_in day).1 h'] at h; cases h
    rcases Int.lt_or_le day (-3652425000000000000) with h1 | h1
    · exact of_lo day w hs h1
    · exact of_hi day w hs (by omega)
  · rw [yE_in h, yV_in h]
    obtain ⟨h1, h2⟩ := (yrOf_in day).2 h
    exact of_in day w hs h1 h2
end Go.Proofs.YtiemlpmhhbmfiaaGreatDoor
/- Package months, its own functions: the table of lengths; how long a month is; its first day; its index. -/
namespace Go.Proofs.YtiemlpmhhbmfiaaGreatDoor
open Go.RowKit

/-- The cells of the table of lengths. -/
def lens : Array Value := #[.int .i64 31, .int .i64 28, .int .i64 31, .int .i64 30, .int .i64 31, .int .i64 30, .int .i64 31, .int .i64 31, .int .i64 30, .int .i64 31, .int .i64 30, .int .i64 31]
/-- The table of lengths is laid, as far as the calls of package months lean on it. -/
def StartM (w : World) : Prop := ∃ t fr, w.heap[0]? = some (.cells lens t fr)
theorem StartM.size {w : World} (h : StartM w) : 0 < w.heap.size := by
  obtain ⟨t, fr, h⟩ := h
  rcases Nat.lt_or_ge 0 w.heap.size with h' | h'
  · exact h'
  · rw [Array.getElem?_eq_none h'] at h; cases h
theorem StartM.below {w w' : World} (h : StartM w) (hb : Below w.heap.size w w') : StartM w' := by
  have hs := h.size
  obtain ⟨t, fr, h⟩ := h
  exact ⟨t, fr, (hb.block _ hs).trans h⟩
theorem StartM.cell {w : World} (h : StartM w) (i : Nat) (v : Value) (hv : lens[i]? = some v) : w.cell? ⟨0, i, none⟩ = some v := by
  obtain ⟨t, fr, h⟩ := h
  simp [World.cell?, h, hv]
/-- The number that the table has for a month. -/
def lnI (m : Int) : Int := if m = 4 ∨ m = 6 ∨ m = 9 ∨ m = 11 then 30 else if m = 2 then 28 else 31
theorem lens_at (m : Int) (h0 : 1 ≤ m) (h1 : m ≤ 12) : lens[(m - 1).toNat]? = some (.int .i64 (lnI m)) := by
  have hm : m = 1 ∨ m = 2 ∨ m = 3 ∨ m = 4 ∨ m = 5 ∨ m = 6 ∨ m = 7 ∨ m = 8 ∨ m = 9 ∨ m = 10 ∨ m = 11 ∨ m = 12 := by omega
  rcases hm with rfl | rfl | rfl | rfl | rfl | rfl | rfl | rfl | rfl | rfl | rfl | rfl <;> rfl
theorem mlen_ln (y m : Int) : mlen y m = if m = 2 ∧ lpB y = true then lnI m + 1 else lnI m := by
  unfold mlen lnI
  rw [lenI_lp]
  cases lpB y <;> simp <;> (repeat' split) <;> omega
theorem lnI_bd (m : Int) : 28 ≤ lnI m ∧ lnI m ≤ 31 := by unfold lnI; split <;> (try split) <;> omega
theorem plen_any (y m : Int) (w : World) (hs : StartY w) (hm : StartM w) (hy : yr y = true) (h0 : 1 ≤ m) (h1 : m ≤ 12) :
    Calls Tryz.prog 66 #[.int .i64 y, .int .i64 m] w fun e w' => e = .returned (.int .i64 (mlen y m)) ∧ Below w.heap.size w w' := by
  have hb := (yr_iff y).1 hy
  have HL := Lib.hid (qleap_any y w hs (by omega) (by omega))
  have hc := hm.cell _ _ (lens_at m h0 h1)
  rw [show (m - 1).toNat = m.toNat - 1 by omega] at hc
  have hmb := hm.size
  have hln := lnI_bd m
  have HE := Lib.hid (mlen_ln y m)
  rw [hy, Bool.true_and, yE_in hy] at HL
  obtain ⟨l, hl⟩ : ∃ l, lnI m = l := ⟨_, rfl⟩
  rw [hl] at hc hln HE
  clear hy hl hm
  have hi : (m - 1).toNat < 12 := by omega
  cases hB : lpB y
  · rw [hB] at HL HE
    simp only [Bool.false_eq_true, and_false, if_false] at HE
    rw [HE.out]
    clear HE hB
    go_enter Tryz.func66, Tryz.ntmps66
    go_wp2_with (go_at_call 68; refine HL.out.mono ?_; rintro e w' ⟨rfl, hb⟩)
    go_ret
    exact ⟨rfl, hb⟩
  · rw [hB] at HL HE
    by_cases h2 : m = 2
    · have HV : Hid (mlen y m = l + 1) := by show _ = _; rw [HE.out]; simp [h2]
      rw [HV.out]
      subst h2
      replace hc : w.cell? ⟨0, 1, none⟩ = some (.int .i64 l) := hc
      clear HE hB HV
      go_enter Tryz.func66, Tryz.ntmps66
      go_wp2_with (go_at_call 68; refine HL.out.mono ?_; rintro e w' ⟨rfl, hb⟩)
      go_ret
      exact ⟨rfl, hb⟩
    · have HV : Hid (mlen y m = l) := by show _ = _; rw [HE.out]; simp [h2]
      rw [HV.out]
      have h3 : (m == 2) = false := by simp [h2]
      clear HE hB HV h2
      go_enter Tryz.func66, Tryz.ntmps66
      go_wp2_with (go_at_call 68; refine HL.out.mono ?_; rintro e w' ⟨rfl, hb⟩)
      go_ret
      exact ⟨rfl, hb⟩

/-- The program's own first day of a month. -/
theorem pmst_any (y : Int) (n : Nat) (m : Int) (w : World) (hs : StartY w) (hm : StartM w) (hy : yr y = true) (hn : n < 12) (hmn : m = (n : Int) + 1) :
    Calls Tryz.prog 63 #[.int .i64 y, .int .i64 m] w fun e w' => e = .returned (.int .i64 (mst y n)) ∧ Below w.heap.size w w' := by
  have hb := (yr_iff y).1 hy
  have HS := Lib.hid (qstart_any y w hs)
  rw [yE_in hy, yV_in hy] at HS
  have hbd := stI_bd y (by omega)
  have HL : Hid (∀ k : Nat, k < 12 → ∀ X, Below w.heap.size w X → Calls Tryz.prog 66 #[.int .i64 y, .int .i64 ((k : Int) + 1)] X fun e w' => e = .returned (.int .i64 (mlen y ((k : Int) + 1))) ∧ Below w.heap.size w w') :=
    fun k hk X hX => (plen_any y _ X (hs.below hX) (hm.below hX) hy (by omega) (by omega)).mono fun _ _ ⟨h1, h2⟩ => ⟨h1, hX.trans (h2.mono hX.size)⟩
  have HB : Hid (∀ k : Nat, k ≤ 12 → -9132000000000000000 ≤ mst y k ∧ mst y k ≤ 9132000000000000000) := fun k hk => mst_bd y k hk (by omega)
  have HM : Hid (∀ k : Nat, mst y (k + 1) = mst y k + mlen y ((k : Int) + 1)) := fun k => rfl
  have HZ : Hid (stI y = mst y 0) := (rfl : stI y = mst y 0)
  subst hmn
  generalize stI y = S at *
  clear hy hs hm
  go_enter Tryz.func63, Tryz.ntmps63
  go_wp2_with (go_at_call 37; refine HS.out.mono ?_; rintro e w' ⟨rfl, hb⟩)
  go_loopw [5, 7, 15] (fun d _ k wr => ∃ i : Nat, i ≤ n ∧ k = .int .i64 i ∧ d = .int .i64 (mst y i) ∧ Below w.heap.size w wr) (fun _ _ k _ => n - (intOf k).toNat)
  case atStart => exact ⟨0, by omega, rfl, by rw [← HZ.out], by assumption⟩
  case round =>
    obtain ⟨i, hi, rfl, rfl, hX⟩ := hrel
    obtain ⟨b1, b2⟩ := HB.out i (by omega)
    by_cases hlt : i < n
    · have HC := Lib.hid (HL.out i (by omega) _ hX)
      have HN := Lib.hid (HM.out i)
      have c := mlen_bd y ((i : Int) + 1)
      generalize mst y i = D at *
      generalize mlen y ((i : Int) + 1) = L at *
      go_wp2_with (go_at_call 66; refine HC.out.mono ?_; rintro e w' ⟨rfl, hb⟩)
      go_roundw
      case rel => exact ⟨i + 1, by omega, by go_num, by rw [HN.out], hb⟩
      case measure => simp [intOf]; omega
    · obtain rfl : i = n := by omega
      go_wp2
      go_ret
      exact ⟨rfl, hX⟩

end Go.Proofs.YtiemlpmhhbmfiaaGreatDoor
/- The functions of package months, each with what it returns of whatever numbers. -/
namespace Go.Proofs.YtiemlpmhhbmfiaaGreatDoor
open Go.RowKit

def StartYM (w : World) : Prop := StartY w ∧ StartM w
theorem StartYM.below {w w' : World} (h : StartYM w) (hb : Below w.heap.size w w') : StartYM w' := ⟨h.1.below hb, h.2.below hb⟩

/-- The first and the last day of a month, by its number. -/
def mfst (y m : Int) : Int := mst y (m - 1).toNat
def mlst (y m : Int) : Int := mst y m.toNat - 1
/-- The error of Add, the error of Between. -/
def aE (y m k : Int) : Int := if mE y m = 0 then (if yr (adY y m k) = true then 0 else 6) else mE y m
def aV (y m k v : Int) : Int := if mE y m = 0 ∧ yr (adY y m k) = true then v else 0
def bE (y m z n : Int) : Int := if mE y m = 0 then mE z n else mE y m
def bV (y m z n : Int) : Int := if mE y m = 0 ∧ mE z n = 0 then 12 * (z - y) + (n - m) else 0
def oV (d v : Int) : Int := if yr (yrOf d) = true then v else 0
def I64 (n : Int) : Prop := -9223372036854775808 ≤ n ∧ n ≤ 9223372036854775807

theorem mcheck_any (y m : Int) (w : World) (_hs : StartYM w) (hy : I64 y) (hm : I64 m) : Calls Tryz.prog 62 #[.int .i64 y, .int .i64 m] w fun e w' => e = .returned (.int .i64 (mE y m)) ∧ Below w.heap.size w w' := by
  have HC := Lib.hid (qcheck_any y)
  obtain ⟨y0, y1⟩ := hy
  obtain ⟨m0, m1⟩ := hm
  clear _hs
  unfold mE
  cases hyr : yr y
  · rw [yE_out hyr] at HC
    simp only [Bool.false_eq_true, if_false]
    clear hyr
    go_enter Tryz.func62, Tryz.ntmps62
    go_wp2_with (go_at_call 64; refine (HC.out _).mono ?_; rintro e w' ⟨rfl, rfl⟩)
    go_ret
    exact ⟨rfl, Below.refl _ _⟩
  · rw [yE_in hyr] at HC
    simp only [if_true]
    clear hyr
    cases hmo : mo m
    · simp only [Bool.false_eq_true, if_false]
      have hn : ¬ (1 ≤ m ∧ m ≤ 12) := fun h => by rw [(mo_iff m).2 h] at hmo; cases hmo
      clear hmo
      rcases (show m < 1 ∨ (1 ≤ m ∧ 12 < m) by omega) with h | h
      · clear hn
        go_enter Tryz.func62, Tryz.ntmps62
        go_wp2_with (go_at_call 64; refine (HC.out _).mono ?_; rintro e w' ⟨rfl, rfl⟩)
        go_ret
        exact ⟨rfl, Below.refl _ _⟩
      · obtain ⟨g, h⟩ := h
        clear hn
        go_enter Tryz.func62, Tryz.ntmps62
        go_wp2_with (go_at_call 64; refine (HC.out _).mono ?_; rintro e w' ⟨rfl, rfl⟩)
        go_ret
        exact ⟨rfl, Below.refl _ _⟩
    · simp only [if_true]
      obtain ⟨g, h⟩ := (mo_iff m).1 hmo
      clear hmo
      go_enter Tryz.func62, Tryz.ntmps62
      go_wp2_with (go_at_call 64; refine (HC.out _).mono ?_; rintro e w' ⟨rfl, rfl⟩)
      go_ret
      exact ⟨rfl, Below.refl _ _⟩
theorem mE_cases (y m : Int) : (mE y m = 0 ∧ yr y = true ∧ mo m = true) ∨ (mE y m = 6 ∨ mE y m = 7) := by
  unfold mE
  cases yr y <;> cases mo m <;> simp
theorem mlen_any (y m : Int) (w : World) (hs : StartYM w) (hy : I64 y) (hm : I64 m) : Calls Tryz.prog 38 #[.int .i64 y, .int .i64 m] w fun e w' => e = .returned (.tuple #[.int .i64 (mV y m (mlen y m)), .int .i64 (mE y m)]) ∧ Below w.heap.size w w' := by
  have HC := Lib.hid (mcheck_any y m w hs hy hm)
  rcases mE_cases y m with ⟨h0, h1, h2⟩ | h0
  · obtain ⟨g1, g2⟩ := (mo_iff m).1 h2
    have HL := Lib.hid (fun X (hX : Below w.heap.size w X) => plen_any y m X (hs.below hX).1 (hs.below hX).2 h1 g1 g2)
    rw [h0] at HC
    rw [h0, mV_in h1 h2]
    generalize mlen y m = L at *
    clear h0 h1 h2 hs hy hm
    go_enter Tryz.func38, Tryz.ntmps38
    go_wp2_with (first
      | (go_at_call 62; refine HC.out.mono ?_; rintro e w1 ⟨rfl, hb⟩)
      | (go_at_call 66; refine (HL.out _ hb).mono ?_; rintro e w2 ⟨rfl, hb2⟩))
    go_ret2
    exact ⟨rfl, hb.trans (hb2.mono hb.size)⟩
  · rw [mV_out (by omega)]
    clear hs hy hm
    rcases h0 with h0 | h0
    all_goals
      rw [h0] at HC ⊢
      clear h0
      go_enter Tryz.func38, Tryz.ntmps38
      go_wp2_with (go_at_call 62; refine HC.out.mono ?_; rintro e w1 ⟨rfl, hb⟩)
      go_ret2
      exact ⟨rfl, hb⟩
theorem mstart_any (y m : Int) (w : World) (hs : StartYM w) (hy : I64 y) (hm : I64 m) : Calls Tryz.prog 36 #[.int .i64 y, .int .i64 m] w fun e w' => e = .returned (.tuple #[.int .i64 (mV y m (mfst y m)), .int .i64 (mE y m)]) ∧ Below w.heap.size w w' := by
  have HC := Lib.hid (mcheck_any y m w hs hy hm)
  rcases mE_cases y m with ⟨h0, h1, h2⟩ | h0
  · obtain ⟨g1, g2⟩ := (mo_iff m).1 h2
    have HL := Lib.hid (fun X (hX : Below w.heap.size w X) => pmst_any y (m - 1).toNat m X (hs.below hX).1 (hs.below hX).2 h1 (by omega) (by omega))
    rw [h0] at HC
    rw [h0, mV_in h1 h2]
    unfold mfst
    generalize mst y (m - 1).toNat = L at *
    clear h0 h1 h2 hs hy hm
    go_enter Tryz.func36, Tryz.ntmps36
    go_wp2_with (first
      | (go_at_call 62; refine HC.out.mono ?_; rintro e w1 ⟨rfl, hb⟩)
      | (go_at_call 63; refine (HL.out _ hb).mono ?_; rintro e w2 ⟨rfl, hb2⟩))
    go_ret2
    exact ⟨rfl, hb.trans (hb2.mono hb.size)⟩
  · rw [mV_out (by omega)]
    clear hs hy hm
    rcases h0 with h0 | h0
    all_goals
      rw [h0] at HC ⊢
      clear h0
      go_enter Tryz.func36, Tryz.ntmps36
      go_wp2_with (go_at_call 62; refine HC.out.mono ?_; rintro e w1 ⟨rfl, hb⟩)
      go_ret2
      exact ⟨rfl, hb⟩
theorem mlst_eq (y m : Int) (h : 1 ≤ m) : mlst y m = mst y (m - 1).toNat + mlen y m - 1 := by
  unfold mlst
  obtain ⟨n, hn⟩ : ∃ n, (m - 1).toNat = n := ⟨_, rfl⟩
  rw [show m.toNat = n + 1 by omega, hn, show m = (n : Int) + 1 by omega]
  rfl
theorem mE_err {y m : Int} (h : ¬ mE y m = 0) : mE y m = 6 ∨ mE y m = 7 := by rcases mE_cases y m with ⟨h0, _⟩ | h0; exact absurd h0 h; exact h0
theorem ix_bd (y m : Int) (hy : yr y = true) (hm : mo m = true) : -120000000000000000 ≤ ixI y m 0 ∧ ixI y m 0 ≤ 120000000000000011 := by
  have := (yr_iff y).1 hy
  have := (mo_iff m).1 hm
  unfold ixI; omega
theorem ix_add (y m k : Int) : ixI y m 0 + k = ixI y m k := by unfold ixI; omega
theorem aE_far (y m k : Int) (hE : mE y m = 0) (h : ixI y m k < -9223372036854775808 ∨ 9223372036854775807 < ixI y m k) : aE y m k = 6 ∧ yr (adY y m k) = false := by
  have hn : yr (adY y m k) = false := by
    rw [yr_not]
    unfold adY; omega
  exact ⟨by unfold aE; rw [if_pos hE, hn]; rfl, hn⟩
theorem fit_sum (y m k : Int) (h : -9223372036854775808 ≤ ixI y m k ∧ ixI y m k ≤ 9223372036854775807) : fitV (ixI y m 0 + k) = ixI y m k ∧ fitE (ixI y m 0 + k) = 0 := by
  rw [ix_add]; exact ⟨fitV_in h.1 h.2, fitE_in h.1 h.2⟩
theorem ret_m {k k' : IntKind} {a b c z : Int} (h : b = c) : Ending.returned (.tuple #[.int k a, .int k b, .int k' z]) = .returned (.tuple #[.int k a, .int k c, .int k' z]) := by rw [h]
theorem mof_in (d : Int) (w : World) (hs : StartYM w) (hy : yr (yrOf d) = true) (hd : I64 d) :
    Calls Tryz.prog 40 #[.int .i64 d] w fun e w' => e = .returned (.tuple #[.int .i64 (yrOf d), .int .i64 (moOf d : Nat), .int .i64 0]) ∧ Below w.heap.size w w' := by
  have HO := Lib.hid (qof_any d w hs.1)
  rw [yV_in hy, yE_in hy] at HO
  have HS : Hid (∀ k : Nat, k < 12 → ∀ X, Below w.heap.size w X → Calls Tryz.prog 63 #[.int .i64 (yrOf d), .int .i64 ((k : Int) + 1)] X fun e w' => e = .returned (.int .i64 (mst (yrOf d) k)) ∧ Below w.heap.size w w') :=
    fun k hk X hX => (pmst_any _ k _ X (hs.below hX).1 (hs.below hX).2 hy hk rfl).mono fun _ _ ⟨h1, h2⟩ => ⟨h1, hX.trans (h2.mono hX.size)⟩
  obtain ⟨l1, l2⟩ := yrOf_spec d
  have HE : Hid (∀ n : Nat, 1 ≤ n → n ≤ 12 → mst (yrOf d) (n - 1) ≤ d → d < mst (yrOf d) n → moOf d = n) := fun n h1 h2 h3 h4 => (mo_eq h1 h2 h3 h4).2
  have HT : Hid (mst (yrOf d) 12 = stI (yrOf d + 1)) := mst_12 _
  have HZ : Hid (mst (yrOf d) 0 = stI (yrOf d)) := (rfl : mst (yrOf d) 0 = stI (yrOf d))
  obtain ⟨d0, d1⟩ := hd
  generalize yrOf d = y at *
  clear hy hs
  go_enter Tryz.func40, Tryz.ntmps40
  go_wp2_with (go_at_call 67; refine HO.out.mono ?_; rintro e w' ⟨rfl, hb⟩)
  go_loopw [3, 5, 14] (fun _ _ k wr => ∃ i : Nat, i ≤ 12 ∧ k = .int .i64 i ∧ d < mst y (12 - i) ∧ Below w.heap.size w wr) (fun _ _ k _ => 12 - (intOf k).toNat)
  case atStart => exact ⟨0, by omega, rfl, by rw [HT.out]; exact l2, by assumption⟩
  case round =>
    obtain ⟨i, hi, rfl, hlt, hX⟩ := hrel
    by_cases h12 : i < 12
    · have HC := Lib.hid (HS.out (11 - i) (by omega) _ hX)
      rw [show (((11 - i : Nat) : Int) + 1) = 12 - (i : Int) by omega] at HC
      by_cases hle : mst y (11 - i) ≤ d
      · have HM := Lib.hid (HE.out (12 - i) (by omega) (by omega) (by rw [show 12 - i - 1 = 11 - i by omega]; exact hle) hlt)
        generalize mst y (11 - i) = S at *
        clear hlt
        go_wp2_with (go_at_call 63; refine HC.out.mono ?_; rintro e w' ⟨rfl, hb⟩)
        go_ret3
        exact ⟨ret_m (by rw [HM.out]; omega), hb⟩
      · have HL : Hid (mst y (11 - i) = mst y (12 - (i + 1))) := by show _ = _; rw [show 12 - (i + 1) = 11 - i by omega]
        have HN : Hid (d < mst y (12 - (i + 1))) := by show _ < _; rw [← HL.out]; omega
        generalize mst y (11 - i) = S at *
        clear hlt
        go_wp2_with (go_at_call 63; refine HC.out.mono ?_; rintro e w' ⟨rfl, hb⟩)
        go_roundw
        case rel => exact ⟨i + 1, by omega, by go_num, HN.out, hb⟩
        case measure => simp [intOf]; omega
    · obtain rfl : i = 12 := by omega
      rw [show 12 - 12 = 0 by omega, HZ.out] at hlt
      omega
theorem mof_any (d : Int) (w : World) (hs : StartYM w) (hd : I64 d) : Calls Tryz.prog 40 #[.int .i64 d] w fun e w' => e = .returned (.tuple #[.int .i64 (oV d (yrOf d)), .int .i64 (oV d (moOf d : Nat)), .int .i64 (yE (yrOf d))]) ∧ Below w.heap.size w w' := by
  cases h : yr (yrOf d)
  · have HO := Lib.hid (qof_any d w hs.1)
    have hV : ∀ v, oV d v = 0 := fun v => if_neg (by rw [h]; simp)
    rw [yV_out h, yE_out h] at HO
    rw [hV, hV, yE_out h]
    clear h hV hs hd
    go_enter Tryz.func40, Tryz.ntmps40
    go_wp2_with (go_at_call 67; refine HO.out.mono ?_; rintro e w' ⟨rfl, hb⟩)
    go_ret3
    exact ⟨rfl, hb⟩
  · have hV : ∀ v, oV d v = v := fun v => if_pos h
    rw [hV, hV, yE_in h]
    exact mof_in d w hs h hd
end Go.Proofs.YtiemlpmhhbmfiaaGreatDoor
