/- Package years, its own functions: a quotient downwards; the leap years ahead of a year; the first day of one. -/
import Derived.Test.YtcabcmlnmpfhkaaDoorYRef2
import Derived.Test.YtcabcmlnmpfhkaaDoorIDiv
import Derived.Laws.Rows
import Derived.Deep.Cut
namespace Go.Proofs.YtcabcmlnmpfhkaaDoor
open Go.RowKit

/-- The cells of the table of leap rules. -/
def rules : Array Value := #[.int .i64 4, .int .i64 1, .int .i64 100, .int .i64 (-1), .int .i64 400, .int .i64 1]
/-- The table of leap rules is laid, as far as the calls of package years lean on it. -/
def StartY (w : World) : Prop := ∃ t fr, w.heap[2]? = some (.cells rules t fr)
theorem StartY.size {w : World} (h : StartY w) : 2 < w.heap.size := by
  obtain ⟨t, fr, h⟩ := h
  rcases Nat.lt_or_ge 2 w.heap.size with h' | h'
  · exact h'
  · rw [Array.getElem?_eq_none h'] at h; cases h
theorem StartY.below {w w' : World} (h : StartY w) (hb : Below w.heap.size w w') : StartY w' := by
  have hs := h.size
  obtain ⟨t, fr, h⟩ := h
  exact ⟨t, fr, (hb.block _ hs).trans h⟩
def yE (y : Int) : Int := if yr y = true then 0 else 6
def yV (y v : Int) : Int := if yr y = true then v else 0
theorem yE_in {y : Int} (h : yr y = true) : yE y = 0 := if_pos h
theorem yE_out {y : Int} (h : yr y = false) : yE y = 6 := if_neg (by rw [h]; decide)
theorem yV_in {y : Int} (h : yr y = true) (v : Int) : yV y v = v := if_pos h
theorem yV_out {y : Int} (h : yr y = false) (v : Int) : yV y v = 0 := if_neg (by rw [h]; decide)
def lpsE (a b : Int) : Int := if yr a = true ∧ yr b = true then 0 else 6
def lpsV (a b : Int) : Int := if yr a = true ∧ yr b = true then lpsI a b else 0

theorem floor_any (n d : Int) (w : World) (h0 : -9223372036854775808 ≤ n) (h1 : n ≤ 9223372036854775807) (hd : 0 < d) :
    Calls Tryd.prog 47 #[.int .i64 n, .int .i64 d] w fun e w' => e = .returned (.int .i64 (n / d)) ∧ w = w' := by
  have HD := Lib.hid (idiv_pos n d)
  go_enter Tryd.func47, Tryd.ntmps47
  go_wp2_with (go_at_call 42; refine (HD.out _ h0 h1 hd).mono ?_; rintro e w' ⟨rfl, rfl⟩)
  go_ret
  exact ⟨rfl, rfl⟩

theorem wpl_load_rules {ops : Array Oper} {rest : List Oper} {o : Oper} {a : Act} {w : World} {Q : Exit → Act → World → Prop} (hgd : o.guard = none) (ho : o.op = .load 82 (.global 2))
    (hg : StartY w) (h : wpList Tryd.prog ops Q rest (a.put o.dst (.agg rules)) w) : wpList Tryd.prog ops Q (o :: rest) a w := by
  obtain ⟨t, fr, hg⟩ := hg
  exact wpList_load_row hgd 82 _ ho 2 rfl t _ fr _ hg Tryd.underlying82 rfl (by kernel_rfl) h
/-- What the leap years ahead of a year come to, rule by rule. -/
def lbk (y : Int) : Nat → Int
  | 0 => 0
  | 1 => (y - 1) / 4 + 1
  | 2 => ((y - 1) / 4 + 1) - ((y - 1) / 100 + 1)
  | _ => lps (y - 1) + 1
theorem lbk_3 (y : Int) : ((y - 1) / 4 + 1) - ((y - 1) / 100 + 1) + ((y - 1) / 400 + 1) = lps (y - 1) + 1 := by unfold lps; omega
set_option maxHeartbeats 800000 in
theorem lb_any (y : Int) (w : World) (hs : StartY w) (h0 : -100000000000000000 ≤ y) (h1 : y ≤ 100000000000000000) :
    Calls Tryd.prog 51 #[.int .i64 y] w fun e w' => e = .returned (.int .i64 (lps (y - 1) + 1)) ∧ Below w.heap.size w w' := by
  have HF := Lib.hid (fun d w => floor_any (y - 1) d w (by omega) (by omega))
  have HY := Lib.hid (lbk_3 y)
  have hb4 := idiv_down (a := y - 1) (b := 4) (by omega) (by omega) (by omega)
  have q4 : -25000000000000001 ≤ (y - 1) / 4 ∧ (y - 1) / 4 ≤ 25000000000000001 := by omega
  have q100 : -25000000000000001 ≤ (y - 1) / 100 ∧ (y - 1) / 100 ≤ 25000000000000001 := by omega
  have q400 : -25000000000000001 ≤ (y - 1) / 400 ∧ (y - 1) / 400 ≤ 25000000000000001 := by omega
  obtain ⟨a, ha⟩ : ∃ a, (y - 1) / 4 = a := ⟨_, rfl⟩
  obtain ⟨b, hb⟩ : ∃ b, (y - 1) / 100 = b := ⟨_, rfl⟩
  obtain ⟨c, hc⟩ : ∃ c, (y - 1) / 400 = c := ⟨_, rfl⟩
  have H4 : Hid (∀ w, Calls Tryd.prog 47 #[.int .i64 (y - 1), .int .i64 4] w fun e w' => e = .returned (.int .i64 a) ∧ w = w') := fun w => by rw [← ha]; exact HF.out _ _ (by omega)
  have H100 : Hid (∀ w, Calls Tryd.prog 47 #[.int .i64 (y - 1), .int .i64 100] w fun e w' => e = .returned (.int .i64 b) ∧ w = w') := fun w => by rw [← hb]; exact HF.out _ _ (by omega)
  have H400 : Hid (∀ w, Calls Tryd.prog 47 #[.int .i64 (y - 1), .int .i64 400] w fun e w' => e = .returned (.int .i64 c) ∧ w = w') := fun w => by rw [← hc]; exact HF.out _ _ (by omega)
  rw [ha] at q4; rw [hb] at q100; rw [hc] at q400; rw [ha, hb, hc] at HY
  obtain ⟨L, hL⟩ : ∃ L, lps (y - 1) + 1 = L := ⟨_, rfl⟩
  rw [hL] at HY ⊢
  clear ha hb hc HF hL hb4
  obtain ⟨q41, q42⟩ := q4
  obtain ⟨q1, q2⟩ := q100
  obtain ⟨q3, q5⟩ := q400
  go_enter Tryd.func51, Tryd.ntmps51
  go_wp2_with (refine wpl_load_rules rfl rfl hs ?_)
  have i0 : ∀ w, (Instr.index 82 (.agg rules) (.int .i64 0)).run Tryd.prog w = .ok (.agg #[.int .i64 4, .int .i64 1]) w := fun _ => by kernel_rfl
  have i1 : ∀ w, (Instr.index 82 (.agg rules) (.int .i64 1)).run Tryd.prog w = .ok (.agg #[.int .i64 100, .int .i64 (-1)]) w := fun _ => by kernel_rfl
  have i2 : ∀ w, (Instr.index 82 (.agg rules) (.int .i64 2)).run Tryd.prog w = .ok (.agg #[.int .i64 400, .int .i64 1]) w := fun _ => by kernel_rfl
  go_loopw [3, 8] (fun lv iv wr => ∃ k : Nat, k ≤ 3 ∧ iv = .int .i64 k ∧ lv = .int .i64 (if k = 0 then 0 else if k = 1 then a + 1 else if k = 2 then (a + 1) - (b + 1) else L) ∧ Below w.heap.size w wr) (fun _ iv _ => 3 - (intOf iv).toNat)
  case atStart => exact ⟨0, by omega, rfl, rfl, Below.refl _ _⟩
  case round =>
    obtain ⟨k, hk, hi, hl, hX⟩ := hrel
    have hk4 : k = 0 ∨ k = 1 ∨ k = 2 ∨ k = 3 := by omega
    rcases hk4 with rfl | rfl | rfl | rfl
    · replace hi : _ = Value.int .i64 0 := hi
      replace hl : _ = Value.int .i64 0 := hl
      subst hi hl
      go_wp2_with (go_at_call 47; refine (H4.out _).mono ?_; rintro e w' ⟨rfl, rfl⟩)
      go_roundw
      case rel => exact ⟨1, by omega, rfl, rfl, hX.alloc hX.size _⟩
      case measure => simp [intOf]
    · replace hi : _ = Value.int .i64 1 := hi
      replace hl : _ = Value.int .i64 (a + 1) := hl
      subst hi hl
      go_wp2_with (go_at_call 47; refine (H100.out _).mono ?_; rintro e w' ⟨rfl, rfl⟩)
      go_roundw
      case rel => exact ⟨2, by omega, rfl, by go_num, hX.alloc hX.size _⟩
      case measure => simp [intOf]
    · replace hi : _ = Value.int .i64 2 := hi
      replace hl : _ = Value.int .i64 (a + 1 - (b + 1)) := hl
      subst hi hl
      go_wp2_with (go_at_call 47; refine (H400.out _).mono ?_; rintro e w' ⟨rfl, rfl⟩)
      go_roundw
      case rel => exact ⟨3, by omega, rfl, by rw [← HY.out]; go_num, hX.alloc hX.size _⟩
      case measure => simp [intOf]
    · replace hi : _ = Value.int .i64 3 := hi
      replace hl : _ = Value.int .i64 L := hl
      subst hi hl
      go_wp2
      go_ret
      exact ⟨rfl, hX⟩

theorem lps_bd (y : Int) (h0 : -100000000000000000 ≤ y) (h1 : y ≤ 100000000000000000) : -25000000000000002 ≤ lps y ∧ lps y ≤ 25000000000000002 := by unfold lps; omega
/-- The program's own first day of a year. -/
theorem pst_any (y : Int) (w : World) (hs : StartY w) (h0 : -20000000000000000 ≤ y) (h1 : y ≤ 20000000000000000) :
    Calls Tryd.prog 46 #[.int .i64 y] w fun e w' => e = .returned (.int .i64 (stI y)) ∧ Below w.heap.size w w' := by
  have HL := Lib.hid (fun w hs => lb_any y w hs (by omega) (by omega))
  have hb := lps_bd (y - 1) (by omega) (by omega)
  have HS : Hid (365 * y + (lps (y - 1) + 1) = stI y) := by show _ = _; unfold stI; omega
  obtain ⟨L, hL⟩ : ∃ L, lps (y - 1) = L := ⟨_, rfl⟩
  rw [hL] at hb HL HS
  clear hL
  obtain ⟨b1, b2⟩ := hb
  go_enter Tryd.func46, Tryd.ntmps46
  go_wp2_with (go_at_call 51; refine (HL.out _ hs).mono ?_; rintro e w' ⟨rfl, hb⟩)
  go_ret
  exact ⟨ret_i HS.out, hb⟩

theorem qcheck_any (y : Int) (w : World) : Calls Tryd.prog 36 #[.int .i64 y] w fun e w' => e = .returned (.int .i64 (yE y)) ∧ w = w' := by
  by_cases h1 : y < -10000000000000000
  · have hr : yE y = 6 := yE_out ((yr_not y).2 (by omega))
    rw [hr]
    clear hr
    go_enter Tryd.func36, Tryd.ntmps36
    go_wp2
    go_ret
    exact ⟨rfl, rfl⟩
  · by_cases h2 : 10000000000000000 < y
    · have hr : yE y = 6 := yE_out ((yr_not y).2 (by omega))
      rw [hr]
      clear hr
      go_enter Tryd.func36, Tryd.ntmps36
      go_wp2
      go_ret
      exact ⟨rfl, rfl⟩
    · have hr : yE y = 0 := yE_in ((yr_iff y).2 (by omega))
      rw [hr]
      clear hr
      go_enter Tryd.func36, Tryd.ntmps36
      go_wp2
      go_ret
      exact ⟨rfl, rfl⟩
theorem lps_leap (y : Int) : decide (lps (y - 1) < lps (y + 1 - 1)) = lpB y := by
  have := lps_succ y
  rw [show y + 1 - 1 = y by omega]
  have hl := lenI_lp y
  have hbd := lenI_bd y
  cases h : lpB y
  · rw [h] at hl; simp at hl; rw [decide_eq_false_iff_not]; omega
  · rw [h] at hl; simp at hl; rw [decide_eq_true_eq]; omega
theorem qleap_any (y : Int) (w : World) (hs : StartY w) (h0 : -9223372036854775808 ≤ y) (h1 : y ≤ 9223372036854775807) :
    Calls Tryd.prog 45 #[.int .i64 y] w fun e w' => e = .returned (.tuple #[.bool (yr y && lpB y), .int .i64 (yE y)]) ∧ Below w.heap.size w w' := by
  have HC := Lib.hid (qcheck_any y)
  cases hy : yr y
  · rw [yE_out hy] at HC ⊢
    go_enter Tryd.func45, Tryd.ntmps45
    go_wp2_with (go_at_call 36; refine (HC.out _).mono ?_; rintro e w' ⟨rfl, rfl⟩)
    go_ret2
    exact ⟨rfl, Below.refl _ _⟩
  · rw [yE_in hy] at HC ⊢
    have hb := (yr_iff y).1 hy
    have HL := Lib.hid (lps_leap y)
    have H1 := Lib.hid (fun w hs => lb_any (y + 1) w hs (by omega) (by omega))
    have H2 := Lib.hid (fun w hs => lb_any y w hs (by omega) (by omega))
    have b1 := lps_bd (y + 1 - 1) (by omega) (by omega)
    have b2 := lps_bd (y - 1) (by omega) (by omega)
    rw [Bool.true_and]
    generalize lps (y + 1 - 1) = p at *
    generalize lps (y - 1) = q at *
    generalize lpB y = B at *
    go_enter Tryd.func45, Tryd.ntmps45
    go_wp2_with (first
      | (go_at_call 36; refine (HC.out _).mono ?_; rintro e w' ⟨rfl, rfl⟩)
      | (go_at_call 51; refine (H2.out _ (hs.below hb1)).mono ?_; rintro e w2 ⟨rfl, hb2⟩)
      | (go_at_call 51; refine (H1.out _ hs).mono ?_; rintro e w1 ⟨rfl, hb1⟩))
    go_ret2
    exact ⟨by show Ending.returned (.tuple #[.bool (decide (q < p)), .int .i64 0]) = _; rw [HL.out], hb1.trans (hb2.mono hb1.size)⟩

theorem qstart_any (y : Int) (w : World) (hs : StartY w) :
    Calls Tryd.prog 44 #[.int .i64 y] w fun e w' => e = .returned (.tuple #[.int .i64 (yV y (stI y)), .int .i64 (yE y)]) ∧ Below w.heap.size w w' := by
  have HC := Lib.hid (qcheck_any y)
  cases hy : yr y
  · rw [yE_out hy] at HC ⊢
    rw [yV_out hy]
    clear hy
    go_enter Tryd.func44, Tryd.ntmps44
    go_wp2_with (go_at_call 36; refine (HC.out _).mono ?_; rintro e w' ⟨rfl, rfl⟩)
    go_ret2
    exact ⟨rfl, Below.refl _ _⟩
  · rw [yE_in hy] at HC ⊢
    rw [yV_in hy]
    have hb := (yr_iff y).1 hy
    have HS := Lib.hid (fun w hs => pst_any y w hs (by omega) (by omega))
    generalize stI y = S at *
    clear hy
    go_enter Tryd.func44, Tryd.ntmps44
    go_wp2_with (first
      | (go_at_call 36; refine (HC.out _).mono ?_; rintro e w' ⟨rfl, rfl⟩)
      | (go_at_call 46; refine (HS.out _ hs).mono ?_; rintro e w1 ⟨rfl, hb1⟩))
    go_ret2
    exact ⟨rfl, hb1⟩
end Go.Proofs.YtcabcmlnmpfhkaaDoor
