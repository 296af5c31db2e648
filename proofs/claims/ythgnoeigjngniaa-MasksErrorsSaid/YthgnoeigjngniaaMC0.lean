/- What the functions of package masks return, spelt out, and the small ones among them: Check, Pow10, the count of X, digitOr, nines, fits. -/
import Derived.Test.YthgnoeigjngniaaMRange
import Derived.Test.YthgnoeigjngniaaMA
import Derived.Lib.Bytealg
import Derived.Lib.Strings
namespace Go.Proofs.Ythgnoeigjngniaa
open Go.RowKit

/-- What a function that asks for a mask returns: the error of Check first. -/
def mk2 (s : ByteArray) (v e : Int) : Value := if chkS s = 0 then .tuple #[.int .i64 v, .int .i64 e] else .tuple #[.int .i64 0, .int .i64 (chkS s)]
theorem mk2_ok {s : ByteArray} (h : MaskS s) (v e : Int) : mk2 s v e = .tuple #[.int .i64 v, .int .i64 e] := if_pos ((chkS_ok s).2 h)
theorem mk2_bad {s : ByteArray} (h : ¬ chkS s = 0) (v e : Int) : mk2 s v e = .tuple #[.int .i64 0, .int .i64 (chkS s)] := if_neg h
def errO (o : Option Nat) : Int := if o.isSome then 0 else 16
def nthV (r : List UInt8) (i : Int) : Int := if 0 ≤ i ∧ i < (cntR r : Nat) then (nthR r i.toNat : Nat) else 0
def nthE (r : List UInt8) (i : Int) : Int := if 0 ≤ i ∧ i < (cntR r : Nat) then 0 else 4
def idxV (r : List UInt8) (n : Int) : Int := if hasI r n = true then (idxR r n.toNat : Nat) else 0
def idxE (r : List UInt8) (n : Int) : Int := if hasI r n = true then 0 else 16
def comV (a b : ByteArray) : ByteArray := if chkS a = 0 ∧ chkS b = 0 ∧ a.size = b.size then strO (comS a b) else ⟨#[]⟩
def comE (a b : ByteArray) : Int := if chkS a ≠ 0 then chkS a else if chkS b ≠ 0 then chkS b else if a.size = b.size then (if (comS a b).isSome then 0 else 16) else 1

set_option maxHeartbeats 800000 in
theorem check_any (s : ByteArray) (w : World) (hs : s.size ≤ maxLen) :
    Calls Try.prog 15 #[.string s] w fun e w' => e = .returned (.int .i64 (chkS s)) ∧ Below w.heap.size w w' := by
  have hms : s.size ≤ 9223372036854775807 := by unfold maxLen at hs; omega
  by_cases h18 : 18 < s.size
  · have hr : chkS s = 3 := by unfold chkS; rw [if_pos h18]
    rw [hr]
    clear hr
    go_enter Try.func15, Try.ntmps15
    go_wp2
    go_ret
    exact ⟨rfl, Below.refl _ _⟩
  · by_cases h0 : s.size = 0
    · have hr : chkS s = 5 := by unfold chkS; rw [if_neg h18, if_neg (by omega)]
      rw [hr]
      have he : s.toList.isEmpty = true := by rw [ByteArray.toList_eq]; have : s.data.toList.length = 0 := by rw [← size_l]; exact h0
                                              rw [List.length_eq_zero_iff.1 this]; rfl
      clear hr
      go_enter Try.func15, Try.ntmps15
      go_wp2
      go_ret
      exact ⟨rfl, Below.refl _ _⟩
    · have he : s.toList.isEmpty = false := by
        rw [ByteArray.toList_eq]
        cases hx : s.data.toList with
        | nil => have : s.size = 0 := by rw [size_l, hx]; rfl
                 omega
        | cons => rfl
      obtain ⟨R, hR⟩ : ∃ R, chkS s = R := ⟨_, rfl⟩
      have HR := Lib.hid hR
      rw [hR]
      clear hR
      go_enter Try.func15, Try.ntmps15
      go_wp2
      go_loopw [] (fun wr => ∃ k : Nat, k ≤ s.size ∧ wr = w.iter s k ∧ Hid (plcs (pre s k))) (fun wr => s.size - wr.iterPos w.heap.size)
      case atStart => exact ⟨0, Nat.zero_le _, rfl, by rw [pre_zero]; exact plcs_nil⟩
      case round =>
        obtain ⟨k, hk, rfl, hall⟩ := hrel
        by_cases hlt : k < s.size
        · have hnx : ∀ ty, (Instr.next (.pointer (some ⟨w.heap.size, 0, none⟩)) true ty).run Try.prog (w.iter s k) = _ := fun ty => run_next_any w s k ty hlt
          have HP : Hid (plc s[k] → Hid (plcs (pre s (k + 1)))) := fun h => plcs_take s k hlt hall.out h
          have HQ : Hid (¬ plc s[k] → R = 5) := fun h => by
            rw [← HR.out]
            unfold chkS
            rw [if_neg h18, if_neg]
            rintro ⟨h1, _⟩
            exact h (plc_at ((allP_iff s).1 h1) k hlt)
          by_cases hp : plc s[k]
          · have HP' := HP.out hp
            have hd := dec_plc hlt hp
            rw [hd] at hnx
            unfold plc at hp
            clear HP HQ hd
            by_cases h88 : s[k].toNat = 88
            · have hb1 : (s[k].toNat : Int) = 88 := by omega
              clear hp h88
              go_wp2
              go_roundw
              case rel => exact ⟨k + 1, by omega, rfl, HP'⟩
              case measure => simp; omega
            · have hb1 : ((s[k].toNat : Int) != 88) = true := by rw [bne_iff_ne]; omega
              have hb4 : ¬ (s[k].toNat : Int) = 88 := by omega
              have hb2 : 48 ≤ (s[k].toNat : Int) := by omega
              have hb3 : (s[k].toNat : Int) ≤ 57 := by omega
              clear hp h88
              go_wp2
              go_roundw
              case rel => exact ⟨k + 1, by omega, rfl, HP'⟩
              case measure => simp; omega
          · have HQ' : Hid (R = 5) := HQ.out hp
            obtain ⟨d1, d2⟩ := dec_not hlt hp
            generalize (Utf8.decode s k).1 = x at *
            generalize (Utf8.decode s k).2 = y at *
            clear HP HQ hall hp
            have hb1 : ((x : Int) != 88) = true := by rw [bne_iff_ne]; omega
            have hb4 : ¬ (x : Int) = 88 := by omega
            have hb5 : (x : Int) < 48 ∨ 57 < (x : Int) := by omega
            clear d1 d2
            rcases hb5 with hb5 | hb5
            all_goals
              try have hz : 48 ≤ (x : Int) := by omega
              go_wp2
              any_goals (go_ret; exact ⟨ret_i HQ'.out.symm, below_iter (Below.refl _ _) (Nat.le_refl _) _ _⟩)
              all_goals (exfalso; clear HR HQ' hs h18 hnx; simp_all <;> omega)
        · obtain rfl : k = s.size := by omega
          have hnx : ∀ ty, (Instr.next (.pointer (some ⟨w.heap.size, 0, none⟩)) true ty).run Try.prog (w.iter s s.size) = _ := fun ty => run_next_end w s s.size ty hlt
          have HQ' : Hid (R = 0) := by
            show _ = _
            rw [← HR.out, chkS_ok]
            refine ⟨by rw [← pre_all]; exact hall.out, by omega, by omega⟩
          clear hall hlt
          go_wp2
          go_ret
          exact ⟨ret_i HQ'.out.symm, below_iter (Below.refl _ _) (Nat.le_refl _) _ _⟩
theorem ret_2x {a b c d : Value} (h : a = b) (h' : c = d) : Ending.returned (.tuple #[a, c]) = .returned (.tuple #[b, d]) := by rw [h, h']

def pten (k : Nat) : Int := (10 ^ k : Nat)
theorem pten_succ (k : Nat) : pten (k + 1) = pten k * 10 := by simp [pten, Nat.pow_succ]
theorem pten_pos (k : Nat) : 1 ≤ pten k := by have : 0 < 10 ^ k := Nat.pow_pos (by omega); unfold pten; omega
theorem pten_le {k : Nat} (h : k ≤ 18) : pten k ≤ 1000000000000000000 := by
  have := Nat.pow_le_pow_right (show 0 < 10 by omega) h
  unfold pten
  omega
set_option maxHeartbeats 400000 in
theorem pow10_any (n : Nat) (w : World) (h : n ≤ 18) :
    Calls Try.prog 33 #[.int .i64 n] w fun e w' => e = .returned (.tuple #[.int .i64 (pten n), .int .i64 0]) ∧ w = w' := by
  go_enter Try.func33, Try.ntmps33
  go_wp2
  go_loop [4, 10] (fun p i => ∃ k : Nat, k ≤ n ∧ i = .int .i64 k ∧ p = .int .i64 (pten k)) (fun _ i => n - (intOf i).toNat)
  case atStart => exact ⟨0, Nat.zero_le _, rfl, rfl⟩
  case round =>
    obtain ⟨k, hk, rfl, rfl⟩ := hrel
    have h1 := pten_pos k
    by_cases hlt : k < n
    · have h2 := pten_le (k := k) (by omega)
      have h3 := pten_le (k := k + 1) (by omega)
      have hs := pten_succ k
      rw [hs] at h3
      have HS := Lib.hid hs
      clear hs
      go_wp2
      go_round
      case rel => exact ⟨k + 1, by omega, by go_num, by rw [HS.out]⟩
      case measure => simp [intOf]; omega
    · obtain rfl : k = n := by omega
      go_wp2
      go_ret2
      exact ⟨rfl, rfl⟩

theorem countX (s : ByteArray) (c : UInt8) (w : World) :
    Calls Try.prog 34 #[.string s, .string ⟨#[c]⟩] w fun e w' => e = .returned (.int .i64 (Lib.countByte s.data.toList c)) ∧ w = w' := by
  go_enter Try.func34, Try.ntmps34
  go_wp2
  rw [run_callFunc_extern Try.func45 (by kernel_rfl) (by kernel_rfl) (by kernel_rfl) (e := Extern.BytealgCount.count) (by kernel_rfl), Lib.run_countString]
  simp only [Result.andThen]
  rw [Oper.upon_value]
  go_wp2
  go_ret
  exact ⟨rfl, rfl⟩

theorem digitOr_any (c : UInt8) (d : Nat) (cv dv : Int) (w : World) (hc : plc c) (hcv : cv = (c.toNat : Int)) (hdv : dv = (d : Int)) :
    Calls Try.prog 37 #[.int .i32 cv, .int .i64 dv] w fun e w' => e = .returned (.int .i64 (dorN c d : Nat)) ∧ w = w' := by
  subst hcv hdv
  unfold plc at hc
  by_cases h88 : c.toNat = 88
  · have hr : dorN c d = d := if_pos h88
    have h1 : (c.toNat : Int) = 88 := by omega
    rw [hr]
    clear hr hc h88
    go_enter Try.func37, Try.ntmps37
    go_wp2
    go_ret
    exact ⟨rfl, rfl⟩
  · have hr : ((dorN c d : Nat) : Int) = (c.toNat : Int) - 48 := by unfold dorN; rw [if_neg h88]; omega
    rw [hr]
    have h1 : ¬ (c.toNat : Int) = 88 := by omega
    have h2 : 48 ≤ (c.toNat : Int) := by omega
    have h3 : (c.toNat : Int) ≤ 57 := by omega
    clear hr hc h88
    generalize (c.toNat : Int) = x at *
    go_enter Try.func37, Try.ntmps37
    go_wp2
    go_ret
    exact ⟨rfl, rfl⟩
theorem nines_any (s : ByteArray) (w : World) (hs : s.size ≤ 18) :
    Calls Try.prog 42 #[.string s] w fun e w' => e = .returned (.int .i64 (pten s.size - 1)) ∧ w = w' := by
  have h1 := pten_pos s.size
  have h2 := pten_le hs
  go_enter Try.func42, Try.ntmps42
  go_wp2_with (go_at_call 33; refine (pow10_any _ _ hs).mono ?_; rintro e w' ⟨rfl, rfl⟩)
  go_ret
  exact ⟨rfl, rfl⟩
theorem fits_any (s : ByteArray) (n : Int) (w : World) (hs : s.size ≤ 18) :
    Calls Try.prog 39 #[.string s, .int .i64 n] w fun e w' => e = .returned (.bool (decide (0 ≤ n ∧ n < pten s.size))) ∧ w = w' := by
  by_cases h0 : 0 ≤ n
  · by_cases h1 : n ≤ pten s.size - 1
    · have hr : decide (0 ≤ n ∧ n < pten s.size) = true := by rw [decide_eq_true_eq]; omega
      rw [hr]
      clear hr
      go_enter Try.func39, Try.ntmps39
      go_wp2_with (go_at_call 42; refine (nines_any _ _ hs).mono ?_; rintro e w' ⟨rfl, rfl⟩)
      go_ret
      exact ⟨rfl, rfl⟩
    · have hr : decide (0 ≤ n ∧ n < pten s.size) = false := by rw [decide_eq_false_iff_not]; omega
      rw [hr]
      clear hr
      go_enter Try.func39, Try.ntmps39
      go_wp2_with (go_at_call 42; refine (nines_any _ _ hs).mono ?_; rintro e w' ⟨rfl, rfl⟩)
      go_ret
      exact ⟨by simp [h1], rfl⟩
  · have hr : decide (0 ≤ n ∧ n < pten s.size) = false := by rw [decide_eq_false_iff_not]; omega
    rw [hr]
    clear hr
    go_enter Try.func39, Try.ntmps39
    go_wp2_with (go_at_call 42; refine (nines_any _ _ hs).mono ?_; rintro e w' ⟨rfl, rfl⟩)
    go_ret
    exact ⟨rfl, rfl⟩
end Go.Proofs.Ythgnoeigjngniaa
