/- Count, Least, Greatest, Has, Nth and Index of package masks. -/
import Derived.Test.YthgnoeigjngniaaMB
namespace Go.Proofs.Ythgnoeigjngniaa
open Go.RowKit

theorem bthen {a b c : World} (h : Below a.heap.size a b) (k : Below b.heap.size b c) : Below a.heap.size a c := h.trans (k.mono h.size)
theorem dorN_all {s : ByteArray} (h : plcs (rv s)) {d : Nat} (hd : d ≤ 9) (j : Nat) : dorN (sat s j) d ≤ 9 := by
  by_cases hj : j < s.size
  · exact dorN_le (plc_sat h hj) hd
  · unfold sat; rw [dif_neg hj]; unfold dorN; split
    · exact hd
    · have : (0 : UInt8).toNat = 0 := rfl
      omega
theorem cX_count (s : ByteArray) : Lib.countByte s.data.toList 88 = cX s s.size := by
  have key : ∀ k, k ≤ s.size → List.count 88 (s.data.toList.take k) = cX s k := fun k => by
    induction k with
    | zero => intro _; simp [cX]
    | succ k ih =>
      intro hk
      rw [List.take_succ_eq_append_getElem (by rw [← size_l]; omega), List.count_append, ih (by omega)]
      have e : s.data.toList[k]'(by rw [← size_l]; omega) = sat s k := by rw [sat_in (by omega)]; rfl
      rw [e]
      simp only [cX, List.count_singleton]
      by_cases h : (sat s k).toNat = 88
      · have h2 : sat s k = 88 := UInt8.toNat_inj.1 h
        rw [if_pos h, h2]; rfl
      · have h2 : ¬ sat s k = 88 := fun e => h (by rw [e]; rfl)
        rw [if_neg h]; simp [h2]
  have := key s.size (Nat.le_refl _)
  rw [List.take_of_length_le (by rw [← size_l]; exact Nat.le_refl _)] at this
  exact this
theorem mask_of {s : ByteArray} (h : chkS s = 0) : MaskS s := (chkS_ok s).1 h

set_option maxHeartbeats 800000 in
theorem filled_any (s : ByteArray) (d : Nat) (w : World) (dv : Int) (hdv : dv = (d : Int)) (hm : MaskS s) (hd : d ≤ 9) :
    Calls Try.prog 35 #[.string s, .int .i64 dv] w fun e w' => e = .returned (.int .i64 (joinF (fun j => dorN (sat s j) d) s.size : Nat)) ∧ Below w.heap.size w w' := by
  subst hdv
  have HP := Lib.hid (fun k hk => plc_sat hm.plcs (k := k) hk)
  have H9 := Lib.hid (dorN_all hm.plcs hd)
  have h18 := hm.le
  have hpos := hm.pos
  clear hm
  obtain ⟨f, hf⟩ : ∃ f, f = fun j => dorN (sat s j) d := ⟨_, rfl⟩
  rw [← hf]
  have HF := Lib.hid hf
  clear hf
  have h9 : ∀ j, f j ≤ 9 := fun j => by rw [HF.out]; exact H9.out j
  go_enter Try.func35, Try.ntmps35
  go_wp2
  go_loopw [5] (fun nv wr => ∃ k m : Nat, k ≤ s.size ∧ Hid (m = joinF f k) ∧ nv = .int .i64 (m : Nat) ∧ wr = w.iter s k) (fun _ wr => s.size - wr.iterPos w.heap.size)
  case atStart => exact ⟨0, 0, Nat.zero_le _, rfl, rfl, rfl⟩
  case round =>
    obtain ⟨k, m, hk, hm, rfl, rfl⟩ := hrel
    by_cases hlt : k < s.size
    · have hp := HP.out k hlt
      have hnx := next_in (W := w) rfl hlt hp
      have HD : Hid (∀ W, Calls Try.prog 37 #[.int .i32 ((sat s k).toNat : Nat), .int .i64 (d : Nat)] W fun e w' => e = .returned (.int .i64 (f k : Nat)) ∧ W = w') := fun W => by rw [HF.out]; exact digitOr_any _ _ _ _ W hp rfl rfl
      have hj := joinF_le17 h9 (k := k) (by omega)
      rw [← hm.out] at hj
      have hfk := h9 k
      have HS : Hid (10 * m + f k = joinF f (k + 1)) := by show _ = _; rw [hm.out]; rfl
      clear hm hp h9 H9
      generalize f k = x at *
      go_wp2_with (go_at_call 37; refine (HD.out _).mono ?_; rintro e w' ⟨rfl, rfl⟩)
      go_roundw
      case rel => exact ⟨k + 1, _, by omega, HS, by go_num, rfl⟩
      case measure => simp; omega
    · obtain rfl : k = s.size := by omega
      have hnx := next_out (W := w) rfl s
      go_wp2
      go_ret
      exact ⟨by rw [← hm.out]; rfl, (Below.refl _ w).alloc (Nat.le_refl _) _⟩

variable (s : ByteArray) (n : Int) (w : World)
theorem count_any (hs : s.size ≤ maxLen) :
    Calls Try.prog 9 #[.string s] w fun e w' => e = .returned (mk2 s (cntR (rv s) : Nat) 0) ∧ Below w.heap.size w w' := by
  by_cases h : chkS s = 0
  · have hm := mask_of h
    rw [mk2_ok hm]
    have HC : Hid (∀ W, Calls Try.prog 15 #[.string s] W fun e w' => e = .returned (.int .i64 0) ∧ Below W.heap.size W w') := fun W => by have := check_any s W hs; rwa [h] at this
    have HX : Hid (∀ W, Calls Try.prog 34 #[.string s, .string ⟨#[88]⟩] W fun e w' => e = .returned (.int .i64 (cX s s.size : Nat)) ∧ W = w') := fun W => by have := countX s 88 W; rwa [cX_count] at this
    have hx : cX s s.size ≤ 18 := Nat.le_trans (cX_le s _) hm.le
    have HR : Hid (pten (cX s s.size) = ((cntR (rv s) : Nat) : Int)) := by show _ = _; rw [cnt_all]; rfl
    clear h hm
    generalize cX s s.size = x at *
    go_enter Try.func9, Try.ntmps9
    go_wp2_with (first
      | (go_at_call 15; refine (HC.out _).mono ?_; rintro e w1 ⟨rfl, hb⟩)
      | (go_at_call 34; refine (HX.out _).mono ?_; rintro e w2 ⟨rfl, rfl⟩)
      | (go_at_call 33; refine (pow10_any _ _ hx).mono ?_; rintro e w2 ⟨rfl, rfl⟩))
    go_ret2
    exact ⟨by rw [← HR.out]; rfl, hb⟩
  · rw [mk2_bad h]
    have HC : Hid (∀ W, Calls Try.prog 15 #[.string s] W fun e w' => e = .returned (.int .i64 (chkS s)) ∧ Below W.heap.size W w') := fun W => check_any s W hs
    generalize chkS s = E at *
    go_enter Try.func9, Try.ntmps9
    go_wp2_with (go_at_call 15; refine (HC.out _).mono ?_; rintro e w1 ⟨rfl, hb⟩)
    go_ret2
    exact ⟨rfl, hb⟩
theorem least_any (hs : s.size ≤ maxLen) :
    Calls Try.prog 10 #[.string s] w fun e w' => e = .returned (mk2 s (nthR (rv s) 0 : Nat) 0) ∧ Below w.heap.size w w' := by
  by_cases h : chkS s = 0
  · have hm := mask_of h
    rw [mk2_ok hm]
    have HC : Hid (∀ W, Calls Try.prog 15 #[.string s] W fun e w' => e = .returned (.int .i64 0) ∧ Below W.heap.size W w') := fun W => by have := check_any s W hs; rwa [h] at this
    have HF : Hid (∀ W, Calls Try.prog 35 #[.string s, .int .i64 0] W fun e w' => e = .returned (.int .i64 (nthR (rv s) 0 : Nat)) ∧ Below W.heap.size W w') := fun W => by
      have := filled_any s 0 W 0 rfl hm (by omega)
      rwa [fill0 s _ (Nat.le_refl _), pre_all] at this
    clear h hm
    go_enter Try.func10, Try.ntmps10
    go_wp2_with (first
      | (go_at_call 15; refine (HC.out _).mono ?_; rintro e w1 ⟨rfl, hb⟩)
      | (go_at_call 35; refine (HF.out _).mono ?_; rintro e w2 ⟨rfl, hb2⟩))
    go_ret2
    exact ⟨rfl, bthen hb hb2⟩
  · rw [mk2_bad h]
    have HC : Hid (∀ W, Calls Try.prog 15 #[.string s] W fun e w' => e = .returned (.int .i64 (chkS s)) ∧ Below W.heap.size W w') := fun W => check_any s W hs
    generalize chkS s = E at *
    go_enter Try.func10, Try.ntmps10
    go_wp2_with (go_at_call 15; refine (HC.out _).mono ?_; rintro e w1 ⟨rfl, hb⟩)
    go_ret2
    exact ⟨rfl, hb⟩
theorem great_any (hs : s.size ≤ maxLen) :
    Calls Try.prog 11 #[.string s] w fun e w' => e = .returned (mk2 s (nthR (rv s) (cntR (rv s) - 1) : Nat) 0) ∧ Below w.heap.size w w' := by
  by_cases h : chkS s = 0
  · have hm := mask_of h
    rw [mk2_ok hm]
    have HC : Hid (∀ W, Calls Try.prog 15 #[.string s] W fun e w' => e = .returned (.int .i64 0) ∧ Below W.heap.size W w') := fun W => by have := check_any s W hs; rwa [h] at this
    have HF : Hid (∀ W, Calls Try.prog 35 #[.string s, .int .i64 9] W fun e w' => e = .returned (.int .i64 (nthR (rv s) (cntR (rv s) - 1) : Nat)) ∧ Below W.heap.size W w') := fun W => by
      have := filled_any s 9 W 9 rfl hm (by omega)
      rwa [fill9 s _ (Nat.le_refl _), pre_all] at this
    clear h hm
    go_enter Try.func11, Try.ntmps11
    go_wp2_with (first
      | (go_at_call 15; refine (HC.out _).mono ?_; rintro e w1 ⟨rfl, hb⟩)
      | (go_at_call 35; refine (HF.out _).mono ?_; rintro e w2 ⟨rfl, hb2⟩))
    go_ret2
    exact ⟨rfl, bthen hb hb2⟩
  · rw [mk2_bad h]
    have HC : Hid (∀ W, Calls Try.prog 15 #[.string s] W fun e w' => e = .returned (.int .i64 (chkS s)) ∧ Below W.heap.size W w') := fun W => check_any s W hs
    generalize chkS s = E at *
    go_enter Try.func11, Try.ntmps11
    go_wp2_with (go_at_call 15; refine (HC.out _).mono ?_; rintro e w1 ⟨rfl, hb⟩)
    go_ret2
    exact ⟨rfl, hb⟩
set_option maxHeartbeats 800000 in
theorem has_any (hs : s.size ≤ maxLen) (h0 : -9223372036854775808 ≤ n) (h1 : n ≤ 9223372036854775807) :
    Calls Try.prog 19 #[.string s, .int .i64 n] w fun e w' => e = .returned (.bool (decide (chkS s = 0) && hasI (rv s) n)) ∧ Below w.heap.size w w' := by
  by_cases h : chkS s = 0
  · have hm := mask_of h
    have hr0 : (decide (chkS s = 0) && hasI (rv s) n) = hasI (rv s) n := by simp [h]
    rw [hr0]
    clear hr0
    have HC : Hid (∀ W, Calls Try.prog 15 #[.string s] W fun e w' => e = .returned (.int .i64 0) ∧ Below W.heap.size W w') := fun W => by have := check_any s W hs; rwa [h] at this
    by_cases hf : 0 ≤ n ∧ n < pten s.size
    · obtain ⟨u, rfl⟩ : ∃ u : Nat, n = u := ⟨n.toNat, by omega⟩
      have hu : u < 10 ^ s.size := by have := hf.2; unfold pten at this; omega
      rw [hasI_nat]
      have HF : Hid (∀ W, Calls Try.prog 39 #[.string s, .int .i64 (u : Nat)] W fun e w' => e = .returned (.bool true) ∧ W = w') := fun W => by
        have := fits_any s u W hm.le
        rwa [decide_eq_true hf] at this
      have HG : Hid (∀ W, Calls Try.prog 36 #[.int .i64 (u : Nat), .int .i64 (s.size : Nat)] W fun e w' => e = .returned (.agg (cellsT (digF s.size u))) ∧ Below W.heap.size W w') := fun W => digitsOf_any u s.size W _ _ rfl rfl (by omega) hm.le
      have HA : Hid (∀ W, Calls Try.prog 40 #[.string s, .agg (cellsT (digF s.size u))] W fun e w' => ∃ k : Nat, e = .returned (.int .i64 k) ∧ k ≤ s.size ∧ (∀ j, j < k → agr (sat s j) (digF s.size u j)) ∧ (k < s.size → ¬ agr (sat s k) (digF s.size u k)) ∧ Below W.heap.size W w') := fun W => agreeing_any s _ W _ rfl hm.plcs hm.le (fun j => digF_le _ _ _)
      have HD := Lib.hid (has_dig hu)
      generalize cellsT (digF s.size u) = C at *
      clear h hm hu hf
      go_enter Try.func19, Try.ntmps19
      go_wp2_with (first
        | (go_at_call 15; refine (HC.out _).mono ?_; rintro e w1 ⟨rfl, hb⟩)
        | (go_at_call 39; refine (HF.out _).mono ?_; rintro e w2 ⟨rfl, rfl⟩)
        | (go_at_call 36; refine (HG.out _).mono ?_; rintro e w3 ⟨rfl, hb2⟩)
        | (go_at_call 40; refine (HA.out _).mono ?_; rintro e w4 ⟨k, rfl, hk, hk1, hk2, hb3⟩))
      go_ret
      refine ⟨ret_b ?_, bthen (bthen hb hb2) hb3⟩
      rw [Bool.eq_iff_iff, HD.out, beq_iff_eq]
      constructor
      · intro e
        have e' : k = s.size := by omega
        subst e'
        exact hk1
      · intro hall
        rcases Nat.lt_or_ge k s.size with h | h
        · exact absurd (hall k h) (hk2 h)
        · omega
    · have hr : hasI (rv s) n = false := by
        cases hx : hasI (rv s) n with
        | false => rfl
        | true =>
          obtain ⟨i, _, rfl⟩ := hasI_idx hx
          have := nth_lt hm.plcs i
          rw [rv_len] at this
          exact absurd ⟨by omega, by unfold pten; omega⟩ hf
      rw [hr]
      have HF : Hid (∀ W, Calls Try.prog 39 #[.string s, .int .i64 n] W fun e w' => e = .returned (.bool false) ∧ W = w') := fun W => by
        have := fits_any s n W hm.le
        rwa [decide_eq_false hf] at this
      clear h hm hf hr
      go_enter Try.func19, Try.ntmps19
      go_wp2_with (first
        | (go_at_call 15; refine (HC.out _).mono ?_; rintro e w1 ⟨rfl, hb⟩)
        | (go_at_call 39; refine (HF.out _).mono ?_; rintro e w2 ⟨rfl, rfl⟩))
      go_ret
      exact ⟨rfl, hb⟩
  · have hr0 : (decide (chkS s = 0) && hasI (rv s) n) = false := by simp [h]
    rw [hr0]
    clear hr0
    have HC : Hid (∀ W, Calls Try.prog 15 #[.string s] W fun e w' => e = .returned (.int .i64 (chkS s)) ∧ Below W.heap.size W w') := fun W => check_any s W hs
    generalize chkS s = E at *
    go_enter Try.func19, Try.ntmps19
    go_wp2_with (go_at_call 15; refine (HC.out _).mono ?_; rintro e w1 ⟨rfl, hb⟩)
    go_ret
    exact ⟨rfl, hb⟩
end Go.Proofs.Ythgnoeigjngniaa
