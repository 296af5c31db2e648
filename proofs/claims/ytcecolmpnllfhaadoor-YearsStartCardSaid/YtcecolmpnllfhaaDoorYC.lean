/- Package years, its own functions: a quotient downwards; the leap years ahead of a year; the first day of one. -/
import Derived.Test.YtcecolmpnllfhaaDoorYRef2
import Derived.Test.YtcecolmpnllfhaaDoorIDiv
import Derived.Laws.Rows
import Derived.Deep.Cut
namespace Go.Proofs.YtcecolmpnllfhaaDoor
open Go.RowKit

/-- The cells of the table of leap rules. -/
def rules : Array Value := #[.int .i64 4, .int .i64 1, .int .i64 100, .int .i64 (-1), .int .i64 400, .int .i64 1]
/-- What the program's start has laid, as far as the calls lean on it. -/
def Start (w : World) : Prop := ∃ t fr, w.heap[0]? = some (.cells rules t fr)
theorem Start.size {w : World} (h : Start w) : 0 < w.heap.size := by
  obtain ⟨t, fr, h⟩ := h
  rcases Nat.lt_or_ge 0 w.heap.size with h' | h'
  · exact h'
  · rw [Array.getElem?_eq_none h'] at h; cases h
theorem Start.below {w w' : World} (h : Start w) (hb : Below w.heap.size w w') : Start w' := by
  have hs := h.size
  obtain ⟨t, fr, h⟩ := h
  exact ⟨t, fr, (hb.block _ hs).trans h⟩
/-- The world of a call that began at w: what the start has laid is there, and below w's size nothing has turned. -/
def Ok (w W : World) : Prop := Start W ∧ Below w.heap.size w W
theorem Ok.step {w W W' : World} (h : Ok w W) (hb : Below W.heap.size W W') : Ok w W' := ⟨h.1.below hb, h.2.trans (hb.mono h.2.size)⟩
theorem Ok.refl {w : World} (h : Start w) : Ok w w := ⟨h, Below.refl _ _⟩

def yE (y : Int) : Int := if yr y = true then 0 else 6
def yV (y v : Int) : Int := if yr y = true then v else 0
theorem yE_in {y : Int} (h : yr y = true) : yE y = 0 := if_pos h
theorem yE_out {y : Int} (h : yr y = false) : yE y = 6 := if_neg (by rw [h]; decide)
theorem yV_in {y : Int} (h : yr y = true) (v : Int) : yV y v = v := if_pos h
theorem yV_out {y : Int} (h : yr y = false) (v : Int) : yV y v = 0 := if_neg (by rw [h]; decide)
def lpsE (a b : Int) : Int := if yr a = true ∧ yr b = true then 0 else 6
def lpsV (a b : Int) : Int := if yr a = true ∧ yr b = true then lpsI a b else 0

theorem floor_any (n d : Int) (w : World) (h0 : -9223372036854775808 ≤ n) (h1 : n ≤ 9223372036854775807) (hd : 0 < d) :
    Calls Tryd.prog 25 #[.int .i64 n, .int .i64 d] w fun e w' => e = .returned (.int .i64 (n / d)) ∧ w = w' := by
  have HD := Lib.hid (idiv_pos n d)
  go_enter Tryd.func25, Tryd.ntmps25
  go_wp2_with (go_at_call 28; refine (HD.out _ h0 h1 hd).mono ?_; rintro e w' ⟨rfl, rfl⟩)
  go_ret
  exact ⟨rfl, rfl⟩

theorem wpl_load_rules {ops : Array Oper} {rest : List Oper} {o : Oper} {a : Act} {w : World} {Q : Exit → Act → World → Prop} (hgd : o.guard = none) (ho : o.op = .load 43 (.global 0))
    (hg : Start w) (h : wpList Tryd.prog ops Q rest (a.put o.dst (.agg rules)) w) : wpList Tryd.prog ops Q (o :: rest) a w := by
  obtain ⟨t, fr, hg⟩ := hg
  exact wpList_load_row hgd 43 _ ho 0 rfl t _ fr _ hg Tryd.underlying43 rfl (by kernel_rfl) h
/-- What the leap years ahead of a year come to, rule by rule. -/
def lbk (y : Int) : Nat → Int
  | 0 => 0
  | 1 => (y - 1) / 4 + 1
  | 2 => ((y - 1) / 4 + 1) - ((y - 1) / 100 + 1)
  | _ => lps (y - 1) + 1
theorem lbk_3 (y : Int) : ((y - 1) / 4 + 1) - ((y - 1) / 100 + 1) + ((y - 1) / 400 + 1) = lps (y - 1) + 1 := by unfold lps; omega
set_option maxHeartbeats 800000 in
theorem lb_any (y : Int) (w : World) (hs : Start w) (h0 : -100000000000000000 ≤ y) (h1 : y ≤ 100000000000000000) :
    Calls Tryd.prog 23 #[.int .i64 y] w fun e w' => e = .returned (.int .i64 (lps (y - 1) + 1)) ∧ Below w.heap.size w w' := by
  have HF := Lib.hid (fun d w => floor_any (y - 1) d w (by omega) (by omega))
  have HY := Lib.hid (lbk_3 y)
  have hb4 := idiv_down (a := y - 1) (b := 4) (by omega) (by omega) (by omega)
  have q4 : -25000000000000001 ≤ (y - 1) / 4 ∧ (y - 1) / 4 ≤ 25000000000000001 := by omega
  have q100 : -25000000000000001 ≤ (y - 1) / 100 ∧ (y - 1) / 100 ≤ 25000000000000001 := by omega
  have q400 : -25000000000000001 ≤ (y - 1) / 400 ∧ (y - 1) / 400 ≤ 25000000000000001 := by omega
  obtain ⟨a, ha⟩ : ∃ a, (y - 1) / 4 = a := ⟨_, rfl⟩
  obtain ⟨b, hb⟩ : ∃ b, (y - 1) / 100 = b := ⟨_, rfl⟩
  obtain ⟨c, hc⟩ : ∃ c, (y - 1) / 400 = c := ⟨_, rfl⟩
  have H4 : Hid (∀ w, Calls Tryd.prog 25 #[.int .i64 (y - 1), .int .i64 4] w fun e w' => e = .returned (.int .i64 a) ∧ w = w') := fun w => by rw [← ha]; exact HF.out _ _ (by omega)
  have H100 : Hid (∀ w, Calls Tryd.prog 25 #[.int .i64 (y - 1), .int .i64 100] w fun e w' => e = .returned (.int .i64 b) ∧ w = w') := fun w => by rw [← hb]; exact HF.out _ _ (by omega)
  have H400 : Hid (∀ w, Calls Tryd.prog 25 #[.int .i64 (y - 1), .int .i64 400] w fun e w' => e = .returned (.int .i64 c) ∧ w = w') := fun w => by rw [← hc]; exact HF.out _ _ (by omega)
  rw [ha] at q4; rw [hb] at q100; rw [hc] at q400; rw [ha, hb, hc] at HY
  obtain ⟨L, hL⟩ : ∃ L, lps (y - 1) + 1 = L := ⟨_, rfl⟩
  rw [hL] at HY ⊢
  clear ha hb hc HF hL hb4
  obtain ⟨q41, q42⟩ := q4
  obtain ⟨q1, q2⟩ := q100
  obtain ⟨q3, q5⟩ := q400
  go_enter Tryd.func23, Tryd.ntmps23
  go_wp2_with (refine wpl_load_rules rfl rfl hs ?_)
  have i0 : ∀ w, (Instr.index 43 (.agg rules) (.int .i64 0)).run Tryd.prog w = .ok (.agg #[.int .i64 4, .int .i64 1]) w := fun _ => by kernel_rfl
  have i1 : ∀ w, (Instr.index 43 (.agg rules) (.int .i64 1)).run Tryd.prog w = .ok (.agg #[.int .i64 100, .int .i64 (-1)]) w := fun _ => by kernel_rfl
  have i2 : ∀ w, (Instr.index 43 (.agg rules) (.int .i64 2)).run Tryd.prog w = .ok (.agg #[.int .i64 400, .int .i64 1]) w := fun _ => by kernel_rfl
  go_loopw [3, 8] (fun lv iv wr => ∃ k : Nat, k ≤ 3 ∧ iv = .int .i64 k ∧ lv = .int .i64 (if k = 0 then 0 else if k = 1 then a + 1 else if k = 2 then (a + 1) - (b + 1) else L) ∧ Below w.heap.size w wr) (fun _ iv _ => 3 - (intOf iv).toNat)
  case atStart => exact ⟨0, by omega, rfl, rfl, Below.refl _ _⟩
  case round =>
    obtain ⟨k, hk, hi, hl, hX⟩ := hrel
    have hk4 : k = 0 ∨ k = 1 ∨ k = 2 ∨ k = 3 := by omega
    rcases hk4 with rfl | rfl | rfl | rfl
    · replace hi : _ = Value.int .i64 0 := hi
      replace hl : _ = Value.int .i64 0 := hl
      subst hi hl
      go_wp2_with (go_at_call 25; refine (H4.out _).mono ?_; rintro e w' ⟨rfl, rfl⟩)
      go_roundw
      case rel => exact ⟨1, by omega, rfl, rfl, hX.alloc hX.size _⟩
      case measure => simp [intOf]
    · replace hi : _ = Value.int .i64 1 := hi
      replace hl : _ = Value.int .i64 (a + 1) := hl
      subst hi hl
      go_wp2_with (go_at_call 25; refine (H100.out _).mono ?_; rintro e w' ⟨rfl, rfl⟩)
      go_roundw
      case rel => exact ⟨2, by omega, rfl, by go_num, hX.alloc hX.size _⟩
      case measure => simp [intOf]
    · replace hi : _ = Value.int .i64 2 := hi
      replace hl : _ = Value.int .i64 (a + 1 - (b + 1)) := hl
      subst hi hl
      go_wp2_with (go_at_call 25; refine (H400.out _).mono ?_; rintro e w' ⟨rfl, rfl⟩)
      go_roundw
      case rel => exact ⟨3, by omega, rfl, by rw [← HY.out]; go_num, hX.alloc hX.size _⟩
      case measure => simp [intOf]
    · replace hi : _ = Value.int .i64 3 := hi
      replace hl : _ = Value.int .i64 L := hl
      subst hi hl
      go_wp2
      go_ret
      exact ⟨rfl, hX⟩

theorem lps_bd (y : Int) (h0 : -100000000000000000 ≤ y) (h1 : y ≤ 100000000000000000) : -25000000000000002 ≤ lps y ∧ lps y ≤ 25000000000000002 := by unfold lps; omega
/-- The program's own first day of a year. -/
theorem pst_any (y : Int) (w : World) (hs : Start w) (h0 : -20000000000000000 ≤ y) (h1 : y ≤ 20000000000000000) :
    Calls Tryd.prog 24 #[.int .i64 y] w fun e w' => e = .returned (.int .i64 (stI y)) ∧ Below w.heap.size w w' := by
  have HL := Lib.hid (fun w hs => lb_any y w hs (by omega) (by omega))
  have hb := lps_bd (y - 1) (by omega) (by omega)
  have HS : Hid (365 * y + (lps (y - 1) + 1) = stI y) := by show _ = _; unfold stI; omega
  obtain ⟨L, hL⟩ : ∃ L, lps (y - 1) = L := ⟨_, rfl⟩
  rw [hL] at hb HL HS
  clear hL
  obtain ⟨b1, b2⟩ := hb
  go_enter Tryd.func24, Tryd.ntmps24
  go_wp2_with (go_at_call 23; refine (HL.out _ hs).mono ?_; rintro e w' ⟨rfl, hb⟩)
  go_ret
  exact ⟨ret_i HS.out, hb⟩

theorem qcheck_any (y : Int) (w : World) : Calls Tryd.prog 13 #[.int .i64 y] w fun e w' => e = .returned (.int .i64 (yE y)) ∧ w = w' := by
  by_cases h1 : y < -10000000000000000
  · have hr : yE y = 6 := yE_out ((yr_not y).2 (by omega))
    rw [hr]
    clear hr
    go_enter Tryd.func13, Tryd.ntmps13
    go_wp2
    go_ret
    exact ⟨rfl, rfl⟩
  · by_cases h2 : 10000000000000000 < y
    · have hr : yE y = 6 := yE_out ((yr_not y).2 (by omega))
      rw [hr]
      clear hr
      go_enter Tryd.func13, Tryd.ntmps13
      go_wp2
      go_ret
      exact ⟨rfl, rfl⟩
    · have hr : yE y = 0 := yE_in ((yr_iff y).2 (by omega))
      rw [hr]
      clear hr
      go_enter Tryd.func13, Tryd.ntmps13
      go_wp2
      go_ret
      exact ⟨rfl, rfl⟩
theorem lps_leap (y : Int) : decide (lps (y - 1) < lps (y + 1 - 1)) = lpB y := by
  have := lps_succ y
  rw [show y + 1 - 1 = y by omega]
  have hl := lenI_lp y
  have hbd := lenI_bd y
  cases h : lpB y
  · rw [h] at hl; simp at hl; rw [decide_eq_false_iff_not]; omega
  · rw [h] at hl; simp at hl; rw [decide_eq_true_eq]; omega
theorem qleap_any (y : Int) (w : World) (hs : Start w) (h0 : -9223372036854775808 ≤ y) (h1 : y ≤ 9223372036854775807) :
    Calls Tryd.prog 7 #[.int .i64 y] w fun e w' => e = .returned (.tuple #[.bool (yr y && lpB y), .int .i64 (yE y)]) ∧ Below w.heap.size w w' := by
  have HC := Lib.hid (qcheck_any y)
  cases hy : yr y
  · rw [yE_out hy] at HC ⊢
    go_enter Tryd.func7, Tryd.ntmps7
    go_wp2_with (go_at_call 13; refine (HC.out _).mono ?_; rintro e w' ⟨rfl, rfl⟩)
    go_ret2
    exact ⟨rfl, Below.refl _ _⟩
  · rw [yE_in hy] at HC ⊢
    have hb := (yr_iff y).1 hy
    have HL := Lib.hid (lps_leap y)
    have H1 := Lib.hid (fun w hs => lb_any (y + 1) w hs (by omega) (by omega))
    have H2 := Lib.hid (fun w hs => lb_any y w hs (by omega) (by omega))
    have b1 := lps_bd (y + 1 - 1) (by omega) (by omega)
    have b2 := lps_bd (y - 1) (by omega) (by omega)
    rw [Bool.true_and]
    generalize lps (y + 1 - 1) = p at *
    generalize lps (y - 1) = q at *
    generalize lpB y = B at *
    go_enter Tryd.func7, Tryd.ntmps7
    go_wp2_with (first
      | (go_at_call 13; refine (HC.out _).mono ?_; rintro e w' ⟨rfl, rfl⟩)
      | (go_at_call 23; refine (H2.out _ (hs.below hb1)).mono ?_; rintro e w2 ⟨rfl, hb2⟩)
      | (go_at_call 23; refine (H1.out _ hs).mono ?_; rintro e w1 ⟨rfl, hb1⟩))
    go_ret2
    exact ⟨by show Ending.returned (.tuple #[.bool (decide (q < p)), .int .i64 0]) = _; rw [HL.out], hb1.trans (hb2.mono hb1.size)⟩

theorem qlen_any (y : Int) (w : World) (hs : Start w) (h0 : -9223372036854775808 ≤ y) (h1 : y ≤ 9223372036854775807) :
    Calls Tryd.prog 8 #[.int .i64 y] w fun e w' => e = .returned (.tuple #[.int .i64 (yV y (lenI y)), .int .i64 (yE y)]) ∧ Below w.heap.size w w' := by
  have HL := Lib.hid (qleap_any y w hs h0 h1)
  cases hy : yr y
  · rw [yE_out hy, yV_out hy]
    rw [yE_out hy, hy, Bool.false_and] at HL
    clear hy
    go_enter Tryd.func8, Tryd.ntmps8
    go_wp2_with (go_at_call 7; refine HL.out.mono ?_; rintro e w' ⟨rfl, hb⟩)
    go_ret2
    exact ⟨rfl, hb⟩
  · rw [yE_in hy, yV_in hy, lenI_lp]
    rw [yE_in hy, hy, Bool.true_and] at HL
    clear hy
    cases hB : lpB y
    all_goals
      rw [hB] at HL
      clear hB
      go_enter Tryd.func8, Tryd.ntmps8
      go_wp2_with (go_at_call 7; refine HL.out.mono ?_; rintro e w' ⟨rfl, hb⟩)
      go_ret2
      exact ⟨rfl, hb⟩
theorem qstart_any (y : Int) (w : World) (hs : Start w) :
    Calls Tryd.prog 9 #[.int .i64 y] w fun e w' => e = .returned (.tuple #[.int .i64 (yV y (stI y)), .int .i64 (yE y)]) ∧ Below w.heap.size w w' := by
  have HC := Lib.hid (qcheck_any y)
  cases hy : yr y
  · rw [yE_out hy] at HC ⊢
    rw [yV_out hy]
    clear hy
    go_enter Tryd.func9, Tryd.ntmps9
    go_wp2_with (go_at_call 13; refine (HC.out _).mono ?_; rintro e w' ⟨rfl, rfl⟩)
    go_ret2
    exact ⟨rfl, Below.refl _ _⟩
  · rw [yE_in hy] at HC ⊢
    rw [yV_in hy]
    have hb := (yr_iff y).1 hy
    have HS := Lib.hid (fun w hs => pst_any y w hs (by omega) (by omega))
    generalize stI y = S at *
    clear hy
    go_enter Tryd.func9, Tryd.ntmps9
    go_wp2_with (first
      | (go_at_call 13; refine (HC.out _).mono ?_; rintro e w' ⟨rfl, rfl⟩)
      | (go_at_call 24; refine (HS.out _ hs).mono ?_; rintro e w1 ⟨rfl, hb1⟩))
    go_ret2
    exact ⟨rfl, hb1⟩
theorem qend_any (y : Int) (w : World) (hs : Start w) :
    Calls Tryd.prog 10 #[.int .i64 y] w fun e w' => e = .returned (.tuple #[.int .i64 (yV y (stI (y + 1) - 1)), .int .i64 (yE y)]) ∧ Below w.heap.size w w' := by
  have HC := Lib.hid (qcheck_any y)
  cases hy : yr y
  · rw [yE_out hy] at HC ⊢
    rw [yV_out hy]
    clear hy
    go_enter Tryd.func10, Tryd.ntmps10
    go_wp2_with (go_at_call 13; refine (HC.out _).mono ?_; rintro e w' ⟨rfl, rfl⟩)
    go_ret2
    exact ⟨rfl, Below.refl _ _⟩
  · rw [yE_in hy] at HC ⊢
    rw [yV_in hy]
    have hb := (yr_iff y).1 hy
    have HS := Lib.hid (fun w hs => pst_any (y + 1) w hs (by omega) (by omega))
    have hbd := stI_bd (y + 1) (by omega)
    generalize stI (y + 1) = S at *
    clear hy
    go_enter Tryd.func10, Tryd.ntmps10
    go_wp2_with (first
      | (go_at_call 13; refine (HC.out _).mono ?_; rintro e w' ⟨rfl, rfl⟩)
      | (go_at_call 24; refine (HS.out _ hs).mono ?_; rintro e w1 ⟨rfl, hb1⟩))
    go_ret2
    exact ⟨rfl, hb1⟩

theorem qleaps_any (y z : Int) (w : World) (hs : Start w) :
    Calls Tryd.prog 21 #[.int .i64 y, .int .i64 z] w fun e w' => e = .returned (.tuple #[.int .i64 (lpsV y z), .int .i64 (lpsE y z)]) ∧ Below w.heap.size w w' := by
  cases hy : yr y
  · have hy0 := yE_out hy
    have hE : lpsE y z = 6 := if_neg (by rw [hy]; simp)
    have hV : lpsV y z = 0 := if_neg (by rw [hy]; simp)
    rw [hE, hV]
    have HY := Lib.hid hy0
    clear hy hE hV hy0
    go_enter Tryd.func21, Tryd.ntmps21
    go_wp2_with (go_at_call 13; refine (qcheck_any _ _).mono ?_; rintro e w' ⟨rfl, rfl⟩; rw [HY.out])
    go_ret2
    exact ⟨rfl, Below.refl _ _⟩
  · have hy0 := yE_in hy
    have HY := Lib.hid hy0
    clear hy0
    cases hz : yr z
    · have HZ := Lib.hid (yE_out hz)
      have hE : lpsE y z = 6 := if_neg (by rw [hz]; simp)
      have hV : lpsV y z = 0 := if_neg (by rw [hz]; simp)
      rw [hE, hV]
      clear hy hz hE hV
      go_enter Tryd.func21, Tryd.ntmps21
      go_wp2_with (go_at_call 13; refine (qcheck_any _ _).mono ?_; rintro e w' ⟨rfl, rfl⟩; first | rw [HY.out] | rw [HZ.out])
      go_ret2
      exact ⟨rfl, Below.refl _ _⟩
    · have HZ := Lib.hid (yE_in hz)
      have hb := (yr_iff y).1 hy
      have hb' := (yr_iff z).1 hz
      have hE : lpsE y z = 0 := if_pos ⟨hy, hz⟩
      have hV : lpsV y z = lpsI y z := if_pos ⟨hy, hz⟩
      rw [hE, hV]
      clear hy hz hE hV
      by_cases hlt : z < y
      · have hI : lpsI y z = 0 := if_pos hlt
        rw [hI]
        clear hI
        go_enter Tryd.func21, Tryd.ntmps21
        go_wp2_with (go_at_call 13; refine (qcheck_any _ _).mono ?_; rintro e w' ⟨rfl, rfl⟩; first | rw [HY.out] | rw [HZ.out])
        go_ret2
        exact ⟨rfl, Below.refl _ _⟩
      · have hI : lpsI y z = lps z - lps (y - 1) := if_neg hlt
        rw [hI]
        have H1 := Lib.hid (fun w hs => lb_any (z + 1) w hs (by omega) (by omega))
        have H2 := Lib.hid (fun w hs => lb_any y w hs (by omega) (by omega))
        have b1 := lps_bd z (by omega) (by omega)
        have b2 := lps_bd (y - 1) (by omega) (by omega)
        rw [show z + 1 - 1 = z by omega] at H1
        generalize lps z = p at *
        generalize lps (y - 1) = q at *
        clear hI
        go_enter Tryd.func21, Tryd.ntmps21
        go_wp2_with (first
          | (go_at_call 13; refine (qcheck_any _ _).mono ?_; rintro e w' ⟨rfl, rfl⟩; first | rw [HY.out] | rw [HZ.out])
          | (go_at_call 23; refine (H2.out _ (hs.below hb1)).mono ?_; rintro e w2 ⟨rfl, hb2⟩)
          | (go_at_call 23; refine (H1.out _ hs).mono ?_; rintro e w1 ⟨rfl, hb1⟩))
        go_ret2
        exact ⟨ret_2 (by omega) rfl, hb1.trans (hb2.mono hb1.size)⟩
end Go.Proofs.YtcecolmpnllfhaaDoor
