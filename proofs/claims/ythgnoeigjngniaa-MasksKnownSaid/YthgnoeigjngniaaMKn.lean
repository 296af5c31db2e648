/- The law MasksKnown: it returns true. -/
import Derived.Test.YthgnoeigjngniaaMNum
namespace Go.Proofs.Ythgnoeigjngniaa
open Go.RowKit

/-- The masks that the law lists. -/
def ksL : List ByteArray := [⟨#[88]⟩, ⟨#[55]⟩, ⟨#[88, 88]⟩, ⟨#[48, 88]⟩, ⟨#[88, 48]⟩, ⟨#[57, 88]⟩, ⟨#[49, 88, 48, 88]⟩, ⟨#[88, 88, 51, 49]⟩, ⟨#[48, 48, 88, 57]⟩]
def ks (i : Nat) : ByteArray := ksL.getD i ⟨#[]⟩
theorem ks_mask (i : Nat) (h : i < 9) : MaskS (ks i) ∧ (ks i).size ≤ 4 := by
  have : ∀ j : Fin 9, chkS (ks j) = 0 ∧ (ks j).size ≤ 4 := by decide +kernel
  have h1 := this ⟨i, h⟩
  exact ⟨(chkS_ok _).1 h1.1, h1.2⟩
def KS (g : Nat) (X : World) : Prop := g < X.heap.size ∧ ∀ i, i < 9 → X.cell? ⟨g, i, none⟩ = some (.string (ks i))
theorem KS.below {g : Nat} {X Y : World} (h : KS g X) (hb : Below X.heap.size X Y) : KS g Y :=
  ⟨Nat.lt_of_lt_of_le h.1 hb.size, fun i hi => (hb.cell (p := ⟨g, i, none⟩) h.1).trans (h.2 i hi)⟩
theorem ks_new (W : World) (t : TypeId) : KS W.heap.size (W.alloc (.cells #[.string ⟨#[88]⟩, .string ⟨#[55]⟩, .string ⟨#[88, 88]⟩, .string ⟨#[48, 88]⟩, .string ⟨#[88, 48]⟩, .string ⟨#[57, 88]⟩, .string ⟨#[49, 88, 48, 88]⟩, .string ⟨#[88, 88, 51, 49]⟩, .string ⟨#[48, 48, 88, 57]⟩] t)) :=
  ⟨by simp, fun i hi => by
    rw [cell_of_row _ _ i _ _ (0, 0) (heap_alloc_new W _)]
    match i, hi with
    | 0, _ | 1, _ | 2, _ | 3, _ | 4, _ | 5, _ | 6, _ | 7, _ | 8, _ => rfl⟩

/-- The number ahead of the one with the index k: -1 if there is none. -/
def lastI (r : List UInt8) (k : Nat) : Int := if k = 0 then -1 else (nthR r (k - 1) : Nat)
theorem kn_has {r : List UInt8} (hr : plcs r) {n : Int} (h : hasI r n = true) :
    blw r n < cntR r ∧ nthV r (blw r n : Nat) = n ∧ nthE r (blw r n : Nat) = 0 ∧ optV (nextS r (lastI r (blw r n) + 1)) = n ∧ errO (nextS r (lastI r (blw r n) + 1)) = 0 ∧ blw r (n + 1) = blw r n + 1 ∧ lastI r (blw r n + 1) = n ∧
      optV (prevS r n) = n ∧ errO (prevS r n) = 0 ∧ 0 ≤ n := by
  obtain ⟨_, h2, h3⟩ := blw_has h
  have h0 : 0 ≤ n := by simp only [hasI, Bool.and_eq_true, decide_eq_true_eq] at h; exact h.1
  have hin : (0 : Int) ≤ (blw r n : Nat) ∧ ((blw r n : Nat) : Int) < (cntR r : Nat) := ⟨by omega, by omega⟩
  obtain ⟨v1, v2⟩ := nthV_in hin
  have hlast : lastI r (blw r n) + 1 ≤ n := by
    unfold lastI
    split
    · omega
    · have := blw_lt (r := r) (n := n) (i := blw r n - 1) (by omega); omega
  have hx : nextS r (lastI r (blw r n) + 1) = some n.toNat := by
    refine nextS_of hr (by simp only [hasI, Bool.and_eq_true] at h; exact h.2) (by omega) fun u hu hl => ?_
    obtain ⟨i, hi, rfl⟩ := hasI_idx hu
    rcases Nat.lt_or_ge i (blw r n) with h' | h'
    · exfalso
      have := nth_mono' r (i := i) (j := blw r n - 1) (by omega) (by omega)
      unfold lastI at hl
      rw [if_neg (by omega)] at hl
      omega
    · have := nth_mono' r h' hi; omega
  have hb : blw r (n + 1) = blw r n + 1 := blw_of (by omega)
    (fun i hi => by have := nth_mono' r (i := i) (j := blw r n) (by omega) h2; omega)
    (fun i hi hc => by have := nth_mono r (i := blw r n) (j := i) (by omega) hc; omega)
  refine ⟨h2, by rw [v1, Int.toNat_natCast]; exact h3, v2, ?_, by rw [hx]; rfl, hb, ?_, ?_, by rw [prevS_has h]; rfl, h0⟩
  · rw [hx]; show ((n.toNat : Nat) : Int) = n; omega
  · unfold lastI; rw [if_neg (by omega), Nat.add_sub_cancel]; exact h3
  · rw [prevS_has h]; show ((n.toNat : Nat) : Int) = n; omega
theorem kn_hasnt {r : List UInt8} {n : Int} (h : hasI r n = false) (hr : plcs r) :
    blw r (n + 1) = blw r n ∧ givesB (optV (prevS r n)) (errO (prevS r n)) (lastI r (blw r n)) (decide (0 ≤ lastI r (blw r n))) 16 = true := by
  have hle := blw_le r n
  have hne : ∀ i, ((nthR r i : Nat) : Int) ≠ n := fun i he => by
    have := hasI_nth hr i
    rw [he, h] at this; cases this
  refine ⟨blw_of hle (fun i hi => by have := blw_lt hi; omega) (fun i hi hc => by have := blw_ge hi hc; have := hne i; omega), ?_⟩
  unfold prevS lastI
  rw [if_neg (by rw [h]; decide)]
  by_cases h0 : blw r n = 0
  · rw [if_pos h0, if_pos h0]; simp [givesB, optV, errO]
  · rw [if_neg h0, if_neg h0]; simp [givesB, optV, errO]
theorem kn_all {r : List UInt8} (hr : plcs r) (hl : r.length ≤ 4) : blw r 10010 = cntR r := by
  refine blw_of (Nat.le_refl _) (fun i _ => ?_) (fun i h1 h2 => by omega)
  have h1 := nth_lt hr i
  have h2 := Nat.pow_le_pow_right (show 0 < 10 by omega) hl
  omega
theorem kn_start {r : List UInt8} : blw r (-1) = 0 := blw_of (Nat.zero_le _) (fun i h => by omega) (fun i _ _ => by omega)

/-- The mask of 18 open places. -/
def wide : ByteArray := ⟨#[88, 88, 88, 88, 88, 88, 88, 88, 88, 88, 88, 88, 88, 88, 88, 88, 88, 88]⟩
theorem wide_mask : MaskS wide := (chkS_ok _).1 (by decide +kernel)
def nine : ByteArray := ⟨#[57, 88, 88, 88, 88, 88, 88, 88, 88, 88, 88, 88, 88, 88, 88, 88, 88, 48]⟩
theorem nine_mask : MaskS nine := (chkS_ok _).1 (by decide +kernel)
section
variable {w W : World}
theorem w_count (h : Ok w W) : Calls Try.prog 9 #[.string ⟨#[88, 88, 88, 88, 88, 88, 88, 88, 88, 88, 88, 88, 88, 88, 88, 88, 88, 88]⟩] W fun e w' => e = .returned (.tuple #[.int .i64 1000000000000000000, .int .i64 0]) ∧ Ok w w' := by
  have := c_count wide_mask h
  rw [show ((cntR (rv wide) : Nat) : Int) = 1000000000000000000 by decide +kernel] at this
  exact this
theorem w_great (h : Ok w W) : Calls Try.prog 11 #[.string ⟨#[88, 88, 88, 88, 88, 88, 88, 88, 88, 88, 88, 88, 88, 88, 88, 88, 88, 88]⟩] W fun e w' => e = .returned (.tuple #[.int .i64 999999999999999999, .int .i64 0]) ∧ Ok w w' := by
  have := c_great wide_mask h
  rw [show ((nthR (rv wide) (cntR (rv wide) - 1) : Nat) : Int) = 999999999999999999 by decide +kernel] at this
  exact this
theorem wide_lt {u : Int} (hu : hasI (rv wide) u = true) : u < 1000000000000000000 := by
  have h := hu
  simp only [hasI, Bool.and_eq_true, decide_eq_true_eq] at h
  have := has_lt wide_mask.plcs h.2
  rw [rv_len] at this
  have e : 10 ^ wide.size = 1000000000000000000 := by decide +kernel
  omega
theorem w_next (h : Ok w W) : Calls Try.prog 24 #[.string ⟨#[88, 88, 88, 88, 88, 88, 88, 88, 88, 88, 88, 88, 88, 88, 88, 88, 88, 88]⟩, .int .i64 1000000000000000000] W fun e w' => e = .returned (.tuple #[.int .i64 0, .int .i64 16]) ∧ Ok w w' := by
  have := c_next wide_mask h 1000000000000000000 (by omega) (by omega)
  rw [nextS_out wide_mask.plcs fun u hu => wide_lt hu] at this
  exact this
theorem w_prev (h : Ok w W) : Calls Try.prog 25 #[.string ⟨#[88, 88, 88, 88, 88, 88, 88, 88, 88, 88, 88, 88, 88, 88, 88, 88, 88, 88]⟩, .int .i64 9223372036854775807] W fun e w' => e = .returned (.tuple #[.int .i64 999999999999999999, .int .i64 0]) ∧ Ok w w' := by
  have := c_prev wide_mask h 9223372036854775807 (by omega) (by omega)
  rw [prevS_of wide_mask.plcs (v := 999999999999999999) (by decide +kernel) (by omega) fun u hu _ => by have := wide_lt hu; omega] at this
  exact this
theorem w_nine (h : Ok w W) : Calls Try.prog 24 #[.string ⟨#[57, 88, 88, 88, 88, 88, 88, 88, 88, 88, 88, 88, 88, 88, 88, 88, 88, 48]⟩, .int .i64 899999999999999999] W fun e w' => e = .returned (.tuple #[.int .i64 900000000000000000, .int .i64 0]) ∧ Ok w w' := by
  have := c_next nine_mask h 899999999999999999 (by omega) (by omega)
  rw [nextS_of nine_mask.plcs (v := 900000000000000000) (by decide +kernel) (by omega) fun u hu _ => by
    obtain ⟨i, hi, rfl⟩ := hasI_idx hu
    have h1 := nth_mono' (rv nine) (Nat.zero_le i) hi
    have h2 : nthR (rv nine) 0 = 900000000000000000 := by decide +kernel
    omega] at this
  exact this
end

set_option maxRecDepth 100000 in
set_option maxHeartbeats 8000000 in
theorem known_law (w W : World) (h : Ok w W) :
    Calls Try.prog 7 #[] W fun e w' => e = .returned (.bool true) ∧ Ok w w' := by
  go_enter Try.func7, Try.ntmps7
  go_wp2_with fail
  have l0 : W.heap.size < W.heap.size + 1 := by omega
  generalize hg : W.heap.size = g at *
  go_loopw [2] (fun iv wr => ∃ (i : Nat), i ≤ 9 ∧ iv = .int .i64 i ∧ KS g wr ∧ Ok w wr) (fun iv _ => 9 - (intOf iv).toNat)
  case atStart => exact ⟨0, by omega, rfl, by rw [← hg]; exact ks_new W _, h.step (by go_grown)⟩
  case round =>
    obtain ⟨i, hi, rfl, hk, ho⟩ := hrel
    by_cases hi9 : i = 9
    · subst hi9
      have hi1 : ¬ ((9 : Nat) : Int) < 9 := by omega
      clear hi l0 hk
      go_wp2_with (first
        | (go_at_call 9; refine (w_count (by assumption)).mono ?_; rintro e w' ⟨rfl, hk⟩)
        | (go_at_call 11; refine (w_great (by assumption)).mono ?_; rintro e w' ⟨rfl, hk⟩)
        | (go_at_call 25; refine (w_prev (by assumption)).mono ?_; rintro e w' ⟨rfl, hk⟩)
        | (go_at_call 24; ((with_reducible refine (w_next (by assumption)).mono ?_); rintro e w' ⟨rfl, hk⟩))
        | (go_at_call 24; ((with_reducible refine (w_nine (by assumption)).mono ?_); rintro e w' ⟨rfl, hk⟩))
        | (go_at_call 13; refine (num_t _ _ _ _ (by rfl) (by rfl)).mono ?_; rintro e w' ⟨rfl, rfl⟩)
        | (go_at_call 17; refine (bad_t _ _ _ _ (by rfl) (by rfl)).mono ?_; rintro e w' ⟨rfl, rfl⟩)
        | (go_at_call 23; refine (lives_t w _ (by assumption)).mono ?_; rintro e w' ⟨rfl, hk⟩))
      go_ret
      exact ⟨rfl, by assumption⟩
    · have hi1 : (i : Int) < 9 := by omega
      have hi2 : i < 9 := by omega
      obtain ⟨hS, h4⟩ := ks_mask i hi2
      have hcell := hk.2 i hi2
      have KC : Hid (∀ X, Ok w X → Calls Try.prog 9 #[.string (ks i)] X fun e w' => e = .returned (.tuple #[.int .i64 (cntR (rv (ks i)) : Nat), .int .i64 0]) ∧ Below X.heap.size X w' ∧ Ok w w') := fun X hX => (c_count hS (Ok.refl X)).mono fun _ _ ⟨h1, h2⟩ => ⟨h1, h2, hX.step h2⟩
      have KN : Hid (∀ X y, Ok w X → -9223372036854775808 ≤ y → y ≤ 9223372036854775807 → Calls Try.prog 16 #[.string (ks i), .int .i64 y] X fun e w' => e = .returned (.tuple #[.int .i64 (nthV (rv (ks i)) y), .int .i64 (nthE (rv (ks i)) y)]) ∧ Below X.heap.size X w' ∧ Ok w w') := fun X y hX h0 h1 => (c_nth hS (Ok.refl X) y h0 h1).mono fun _ _ ⟨h1, h2⟩ => ⟨h1, h2, hX.step h2⟩
      have KX : Hid (∀ X y, Ok w X → -9223372036854775808 ≤ y → y ≤ 9223372036854775807 → Calls Try.prog 24 #[.string (ks i), .int .i64 y] X fun e w' => e = .returned (.tuple #[.int .i64 (optV (nextS (rv (ks i)) y)), .int .i64 (errO (nextS (rv (ks i)) y))]) ∧ Below X.heap.size X w' ∧ Ok w w') := fun X y hX h0 h1 => (c_next hS (Ok.refl X) y h0 h1).mono fun _ _ ⟨h1, h2⟩ => ⟨h1, h2, hX.step h2⟩
      have KP : Hid (∀ X y, Ok w X → -9223372036854775808 ≤ y → y ≤ 9223372036854775807 → Calls Try.prog 25 #[.string (ks i), .int .i64 y] X fun e w' => e = .returned (.tuple #[.int .i64 (optV (prevS (rv (ks i)) y)), .int .i64 (errO (prevS (rv (ks i)) y))]) ∧ Below X.heap.size X w' ∧ Ok w w') := fun X y hX h0 h1 => (c_prev hS (Ok.refl X) y h0 h1).mono fun _ _ ⟨h1, h2⟩ => ⟨h1, h2, hX.step h2⟩
      have KH : Hid (∀ X y, Ok w X → -9223372036854775808 ≤ y → y ≤ 9223372036854775807 → Calls Try.prog 19 #[.string (ks i), .int .i64 y] X fun e w' => e = .returned (.bool (hasI (rv (ks i)) y)) ∧ Below X.heap.size X w' ∧ Ok w w') := fun X y hX h0 h1 => (c_has hS (Ok.refl X) y h0 h1).mono fun _ _ ⟨h1, h2⟩ => ⟨h1, h2, hX.step h2⟩
      have KR : Hid (∀ X y, Ok w X → -9223372036854775808 ≤ y → y ≤ 9223372036854775807 → Calls Try.prog 20 #[.string (ks i), .int .i64 y] X fun e w' => e = .returned (.bool (hasI (rv (ks i)) y)) ∧ Below X.heap.size X w' ∧ Ok w w') := fun X y hX h0 h1 => (cr_has hS (Ok.refl X) y h0 h1).mono fun _ _ ⟨h1, h2⟩ => ⟨h1, h2, hX.step h2⟩
      have hP := Lib.hid hS.plcs
      have hcnt := hS.cnt
      have hall : Hid (blw (rv (ks i)) 10010 = cntR (rv (ks i))) := kn_all hS.plcs (by rw [rv_len]; exact h4)
      clear hS h4
      generalize ks i = s at *
      generalize rv s = r at *
      go_wp2_with fail
      go_loopw [4, 5, 6] (fun lv kv nv wi => ∃ (N : Nat), N ≤ 10011 ∧ nv = .int .i64 ((N : Int) - 1) ∧ kv = .int .i64 (blw r ((N : Int) - 1) : Nat) ∧ lv = .int .i64 (lastI r (blw r ((N : Int) - 1))) ∧ KS g wi ∧ Ok w wi) (fun _ _ nv _ => (10010 - intOf nv).toNat)
      case atStart => exact ⟨0, by omega, rfl, by rw [show ((0 : Nat) : Int) - 1 = -1 by omega, kn_start]; rfl, by rw [show ((0 : Nat) : Int) - 1 = -1 by omega, kn_start]; rfl, hk, ho⟩
      case round =>
        obtain ⟨N, hN, rfl, rfl, rfl, hk2, ho2⟩ := hrel
        clear hk ho
        by_cases hNe : N = 10011
        · subst hNe
          have hk1 : ¬ (((10011 : Nat) : Int) - 1) < 10010 := by omega
          have e1 : ((10011 : Nat) : Int) - 1 = 10010 := by omega
          rw [e1, hall.out]
          clear hk1 e1 hN KN KX KP KH KR hall
          generalize cntR r = C at *
          generalize lastI r C = la at *
          go_wp2_with (first
            | (go_at_call 9; refine (KC.out _ (by assumption)).mono ?_; rintro e w' ⟨rfl, hb1, hk⟩; have hk3 := hk2.below hb1)
            | (go_at_call 13; refine (num_t _ _ _ _ (by rfl) (by rfl)).mono ?_; rintro e w' ⟨rfl, rfl⟩))
          go_roundw
          case rel => exact ⟨i + 1, by omega, by first | rfl | go_num, hk3, by assumption⟩
          case measure => simp [intOf]; omega
        · obtain ⟨n, hn⟩ : ∃ n : Int, n = (N : Int) - 1 := ⟨_, rfl⟩
          rw [← hn]
          have hn1 : n < 10010 := by omega
          have hn2 : -1 ≤ n := by omega
          have hn3 : ((N + 1 : Nat) : Int) - 1 = n + 1 := by omega
          have HN : Hid (N + 1 ≤ 10011 ∧ ((N + 1 : Nat) : Int) - 1 = n + 1) := ⟨by omega, hn3⟩
          have hkb : blw r n ≤ 1000000000000000000 := Nat.le_trans (blw_le r n) hcnt
          clear hNe hN hn hn3 KC hall
          cases hb : hasI r n with
          | true =>
            obtain ⟨q1, q2, q3, q4, q5, q6, q7, q8, q9, q10⟩ := kn_has hP.out hb
            have KN1 : Hid (∀ X, Ok w X → Calls Try.prog 16 #[.string s, .int .i64 (blw r n : Nat)] X fun e w' => e = .returned (.tuple #[.int .i64 n, .int .i64 0]) ∧ Below X.heap.size X w' ∧ Ok w w') := fun X hX => by
              have := KN.out X (blw r n : Nat) hX (by omega) (by omega)
              rw [q2, q3] at this; exact this
            have hla : -1 ≤ lastI r (blw r n) ∧ lastI r (blw r n) ≤ 10010 := by
              unfold lastI
              split
              · omega
              · have := blw_lt (r := r) (n := n) (i := blw r n - 1) (by omega); omega
            have KX1 : Hid (∀ X y, Ok w X → y = lastI r (blw r n) + 1 → Calls Try.prog 24 #[.string s, .int .i64 y] X fun e w' => e = .returned (.tuple #[.int .i64 n, .int .i64 0]) ∧ Below X.heap.size X w' ∧ Ok w w') := fun X y hX hy => by
              have := KX.out X (lastI r (blw r n) + 1) hX (by omega) (by omega)
              rw [q4, q5] at this; rw [hy]; exact this
            have KP1 : Hid (∀ X, Ok w X → Calls Try.prog 25 #[.string s, .int .i64 n] X fun e w' => e = .returned (.tuple #[.int .i64 n, .int .i64 0]) ∧ Below X.heap.size X w' ∧ Ok w w') := fun X hX => by
              have := KP.out X n hX (by omega) (by omega)
              rw [q8, q9] at this; exact this
            have KH1 : Hid (∀ X, Ok w X → Calls Try.prog 19 #[.string s, .int .i64 n] X fun e w' => e = .returned (.bool true) ∧ Below X.heap.size X w' ∧ Ok w w') := fun X hX => by
              have := KH.out X n hX (by omega) (by omega)
              rw [hb] at this; exact this
            have KR1 : Hid (∀ X, Ok w X → Calls Try.prog 20 #[.string s, .int .i64 n] X fun e w' => e = .returned (.bool true) ∧ Below X.heap.size X w' ∧ Ok w w') := fun X hX => by
              have := KR.out X n hX (by omega) (by omega)
              rw [hb] at this; exact this
            have HQ : Hid (blw r (n + 1) = blw r n + 1 ∧ lastI r (blw r n + 1) = n) := ⟨q6, q7⟩
            have HG : Hid (givesB n 0 n true 16 = true) := by show _ = _; simp [givesB]
            have hd : decide (0 ≤ n) = true := by simpa using q10
            clear q1 q2 q3 q4 q5 q6 q7 q8 q9 KN KX KP KH KR hb
            obtain ⟨k, hke⟩ : ∃ k, blw r n = k := ⟨_, rfl⟩
            have HK := Lib.hid hke
            rw [hke] at hkb KN1 KX1 hla ⊢
            clear hke
            obtain ⟨la, hle⟩ : ∃ la, lastI r k = la := ⟨_, rfl⟩
            rw [hle] at KX1 hla ⊢
            clear hle
            obtain ⟨hla1, hla2⟩ := hla
            go_wp2_with (first
              | (go_at_call 20; refine (KR1.out _ (by assumption)).mono ?_; rintro e w' ⟨rfl, hb1, hk⟩; have hk3 := hk2.below hb1)
              | (go_at_call 19; refine (KH1.out _ (by assumption)).mono ?_; rintro e w' ⟨rfl, hb2, hk⟩; have hk4 := hk3.below hb2)
              | (go_at_call 16; refine (KN1.out _ (by assumption)).mono ?_; rintro e w' ⟨rfl, hb3, hk⟩; have hk5 := hk4.below hb3)
              | (go_at_call 24; refine (KX1.out _ _ (by assumption) (by exact rfl)).mono ?_; rintro e w' ⟨rfl, hb4, hk⟩; have hk6 := hk5.below hb4)
              | (go_at_call 25; refine (KP1.out _ (by assumption)).mono ?_; rintro e w' ⟨rfl, hb5, hk⟩; have hk7 := hk6.below hb5)
              | (go_at_call 13; refine (num_t _ _ _ _ (by rfl) (by rfl)).mono ?_; rintro e w' ⟨rfl, rfl⟩)
              | (go_at_call 21; refine (gives_t _ _ _ _ _ _ (by first | exact HG.out | (rw [hd]; exact HG.out))).mono ?_; rintro e w' ⟨rfl, rfl⟩))
            go_roundw
            case rel =>
              refine ⟨N + 1, HN.out.1, by rw [HN.out.2], by rw [HN.out.2, HQ.out.1, HK.out]; congr 1, ?_, hk7, by assumption⟩
              have := HQ.out.2
              rw [HK.out] at this
              rw [HN.out.2, HQ.out.1, HK.out, this]
            case measure => simp [intOf]; omega
          | false =>
            obtain ⟨q1, q2⟩ := kn_hasnt hb hP.out
            have KP1 : Hid (∀ X, Ok w X → Calls Try.prog 25 #[.string s, .int .i64 n] X fun e w' => e = .returned (.tuple #[.int .i64 (optV (prevS r n)), .int .i64 (errO (prevS r n))]) ∧ Below X.heap.size X w' ∧ Ok w w') := fun X hX => KP.out X n hX (by omega) (by omega)
            have KH1 : Hid (∀ X, Ok w X → Calls Try.prog 19 #[.string s, .int .i64 n] X fun e w' => e = .returned (.bool false) ∧ Below X.heap.size X w' ∧ Ok w w') := fun X hX => by
              have := KH.out X n hX (by omega) (by omega)
              rw [hb] at this; exact this
            have KR1 : Hid (∀ X, Ok w X → Calls Try.prog 20 #[.string s, .int .i64 n] X fun e w' => e = .returned (.bool false) ∧ Below X.heap.size X w' ∧ Ok w w') := fun X hX => by
              have := KR.out X n hX (by omega) (by omega)
              rw [hb] at this; exact this
            have HQ : Hid (blw r (n + 1) = blw r n) := q1
            clear q1 KN KX KP KH KR hb
            generalize optV (prevS r n) = pv at *
            generalize errO (prevS r n) = pe at *
            obtain ⟨k, hke⟩ : ∃ k, blw r n = k := ⟨_, rfl⟩
            have HK := Lib.hid hke
            rw [hke] at hkb q2 ⊢
            clear hke
            obtain ⟨la, hle⟩ : ∃ la, lastI r k = la := ⟨_, rfl⟩
            have HL := Lib.hid hle
            rw [hle] at q2 ⊢
            have HG := Lib.hid q2
            clear hle q2
            go_wp2_with (first
              | (go_at_call 20; refine (KR1.out _ (by assumption)).mono ?_; rintro e w' ⟨rfl, hb1, hk⟩; have hk3 := hk2.below hb1)
              | (go_at_call 19; refine (KH1.out _ (by assumption)).mono ?_; rintro e w' ⟨rfl, hb2, hk⟩; have hk4 := hk3.below hb2)
              | (go_at_call 25; refine (KP1.out _ (by assumption)).mono ?_; rintro e w' ⟨rfl, hb5, hk⟩; have hk7 := hk4.below hb5)
              | (go_at_call 21; refine (gives_t _ _ _ _ _ _ HG.out).mono ?_; rintro e w' ⟨rfl, rfl⟩))
            go_roundw
            case rel => exact ⟨N + 1, HN.out.1, by rw [HN.out.2], by rw [HN.out.2, HQ.out, HK.out], by rw [HN.out.2, HQ.out, HK.out, HL.out], hk7, by assumption⟩
            case measure => simp [intOf]; omega
end Go.Proofs.Ythgnoeigjngniaa
