/- The reference of masks (circaref03), its other functions: Prev, Check, Common. -/
import Derived.Test.YthgnoeigjngniaaMRef
import Derived.Deep.CutRange
import Derived.Deep.DeepCutAuto
import Derived.Deep.CutBlock
namespace Go.Proofs.Ythgnoeigjngniaa
open Go.RowKit

set_option maxHeartbeats 800000 in
theorem prevR_any (s : ByteArray) (n : Int) (w : World) (hs : MaskS s) (h0 : -9223372036854775808 ≤ n) (h1 : n ≤ 9223372036854775807) :
    Calls Try.prog 27 #[.string s, .int .i64 n] w fun e w' => e = .returned (.tuple #[.int .i64 (optV (prevS (rv s) n)), .bool (prevS (rv s) n).isSome]) ∧ w = w' := by
  have hC : Hid (∀ w, Calls Try.prog 12 #[.string s] w fun e w' => e = .returned (.int .i64 (cntR (rv s) : Nat)) ∧ w = w') := fun w => cntR_any s w hs.le
  have hB : Hid (∀ w, Calls Try.prog 22 #[.string s, .int .i64 n] w fun e w' => e = .returned (.int .i64 (blw (rv s) n : Nat)) ∧ w = w') := fun w => blwR_any s n w hs h0 h1
  have hle := blw_le (rv s) n
  have hc := hs.cnt
  have hN : Hid (∀ w (y : Int), y = (blw (rv s) n : Nat) → Calls Try.prog 14 #[.string s, .int .i64 y] w fun e w' => e = .returned (.int .i64 (nthR (rv s) (blw (rv s) n) : Nat)) ∧ w = w') := fun w y hy => by rw [hy]; exact nthR_any s _ w hs (by omega)
  by_cases hh : hasI (rv s) n = true
  · obtain ⟨q1, q2, q3⟩ := blw_has hh
    have hr : prevS (rv s) n = some n.toNat := prevS_has hh
    have hn : ((n.toNat : Nat) : Int) = n := by have := hh; simp only [hasI, Bool.and_eq_true, decide_eq_true_eq] at this; omega
    rw [hr]
    have HR : Hid (optV (some n.toNat) = n) := hn
    have ht : (((nthR (rv s) (blw (rv s) n) : Nat) : Int) == n) = true := by rw [beq_iff_eq]; exact q3
    clear hh hr hn q1 q3
    generalize cntR (rv s) = C at *
    generalize nthR (rv s) (blw (rv s) n) = x at *
    generalize blw (rv s) n = b at *
    go_enter Try.func27, Try.ntmps27
    go_wp2_with (first
      | (go_at_call 12; refine (hC.out _).mono ?_; rintro e w' ⟨rfl, rfl⟩)
      | (go_at_call 22; refine (hB.out _).mono ?_; rintro e w' ⟨rfl, rfl⟩)
      | (go_at_call 14; refine (hN.out _ _ (by exact rfl)).mono ?_; rintro e w' ⟨rfl, rfl⟩))
    go_ret2
    exact ⟨by rw [HR.out]; rfl, rfl⟩
  · have hne : ¬ (blw (rv s) n < cntR (rv s) ∧ ((nthR (rv s) (blw (rv s) n) : Nat) : Int) = n) := fun h => hh (by rw [← h.2]; exact hasI_nth hs.plcs _)
    by_cases h00 : blw (rv s) n = 0
    · have hr : prevS (rv s) n = none := by unfold prevS; rw [if_neg hh, if_pos h00]
      rw [hr]
      rw [h00] at hB hN hne
      have hpos := cnt_pos (rv s)
      have ht : (((nthR (rv s) 0 : Nat) : Int) == n) = false := by rw [beq_eq_false_iff_ne]; exact fun h => hne ⟨hpos, h⟩
      clear hh hr hne h00 hle
      generalize cntR (rv s) = C at *
      generalize nthR (rv s) 0 = x at *
      go_enter Try.func27, Try.ntmps27
      go_wp2_with (first
        | (go_at_call 12; refine (hC.out _).mono ?_; rintro e w' ⟨rfl, rfl⟩)
        | (go_at_call 22; refine (hB.out _).mono ?_; rintro e w' ⟨rfl, rfl⟩)
        | (go_at_call 14; refine (hN.out _ _ (by exact rfl)).mono ?_; rintro e w' ⟨rfl, rfl⟩))
      go_ret2
      exact ⟨rfl, rfl⟩
    · have hr : prevS (rv s) n = some (nthR (rv s) (blw (rv s) n - 1)) := by unfold prevS; rw [if_neg hh, if_neg h00]
      rw [hr]
      have hM : Hid (∀ w (y : Int), y = (blw (rv s) n : Nat) - 1 → Calls Try.prog 14 #[.string s, .int .i64 y] w fun e w' => e = .returned (.int .i64 (nthR (rv s) (blw (rv s) n - 1) : Nat)) ∧ w = w') := fun w y hy => by
        have := nthR_any s (blw (rv s) n - 1) w hs (by omega)
        rw [show ((blw (rv s) n - 1 : Nat) : Int) = (blw (rv s) n : Nat) - 1 by omega] at this
        rw [hy]
        exact this
      have hb0 : (((blw (rv s) n : Nat) : Int) == 0) = false := by rw [beq_eq_false_iff_ne]; omega
      generalize nthR (rv s) (blw (rv s) n - 1) = y at *
      by_cases hlt : blw (rv s) n < cntR (rv s)
      · have ht : (((nthR (rv s) (blw (rv s) n) : Nat) : Int) == n) = false := by rw [beq_eq_false_iff_ne]; exact fun h => hne ⟨hlt, h⟩
        clear hh hr hne hle
        generalize cntR (rv s) = C at *
        generalize nthR (rv s) (blw (rv s) n) = x at *
        generalize blw (rv s) n = b at *
        go_enter Try.func27, Try.ntmps27
        go_wp2_with (first
          | (go_at_call 12; refine (hC.out _).mono ?_; rintro e w' ⟨rfl, rfl⟩)
          | (go_at_call 22; refine (hB.out _).mono ?_; rintro e w' ⟨rfl, rfl⟩)
          | (go_at_call 14; first | (refine (hN.out _ _ (by exact rfl)).mono ?_; rintro e w' ⟨rfl, rfl⟩) | (refine (hM.out _ _ (by exact rfl)).mono ?_; rintro e w' ⟨rfl, rfl⟩)))
        go_ret2
        exact ⟨rfl, rfl⟩
      · clear hh hr hne hN
        generalize cntR (rv s) = C at *
        generalize blw (rv s) n = b at *
        go_enter Try.func27, Try.ntmps27
        go_wp2_with (first
          | (go_at_call 12; refine (hC.out _).mono ?_; rintro e w' ⟨rfl, rfl⟩)
          | (go_at_call 22; refine (hB.out _).mono ?_; rintro e w' ⟨rfl, rfl⟩)
          | (go_at_call 14; refine (hM.out _ _ (by exact rfl)).mono ?_; rintro e w' ⟨rfl, rfl⟩))
        go_ret2
        exact ⟨rfl, rfl⟩

/-- The error of Check: 0, 3 or 5. -/
def allP (s : ByteArray) : Bool := s.data.toList.all fun c => decide (plc c)
def chkS (s : ByteArray) : Int := if 18 < s.size then 3 else if allP s = true ∧ 1 ≤ s.size then 0 else 5
theorem allP_iff (s : ByteArray) : allP s = true ↔ plcs (rv s) := by
  unfold allP rv plcs
  rw [List.all_eq_true]
  constructor
  · intro h c hc
    have := h c (List.mem_reverse.1 hc)
    simpa using this
  · intro h c hc
    have := h c (List.mem_reverse.2 hc)
    simpa using this
theorem chkS_ok (s : ByteArray) : chkS s = 0 ↔ MaskS s := by
  unfold chkS
  constructor
  · intro h
    split at h
    · omega
    · split at h
      · rename_i h1 h2; exact ⟨(allP_iff s).1 h2.1, h2.2, by omega⟩
      · omega
  · intro h
    have := h.le
    rw [if_neg (by omega), if_pos ⟨(allP_iff s).2 h.plcs, h.pos⟩]
theorem plcs_take (s : ByteArray) (k : Nat) (h : k < s.size) (h1 : plcs (pre s k)) (h2 : plc s[k]) : plcs (pre s (k + 1)) := by
  rw [pre_succ s k h]; exact h1.cons h2

set_option maxHeartbeats 800000 in
theorem chkR_any (s : ByteArray) (w : World) (hs : s.size ≤ 9223372036854775807) :
    Calls Try.prog 32 #[.string s] w fun e w' => e = .returned (.int .i64 (chkS s)) ∧ w = w' := by
  by_cases h18 : 18 < s.size
  · have hr : chkS s = 3 := by unfold chkS; rw [if_pos h18]
    rw [hr]
    clear hr
    go_enter Try.func32, Try.ntmps32
    go_wp2
    go_ret
    exact ⟨rfl, rfl⟩
  · obtain ⟨R, hR⟩ : ∃ R, chkS s = R := ⟨_, rfl⟩
    have HR := Lib.hid hR
    rw [hR]
    clear hR
    go_enter Try.func32, Try.ntmps32
    go_wp2
    go_loop [3] (fun i => ∃ k : Nat, k ≤ s.size ∧ i = .int .i64 k ∧ Hid (plcs (pre s k))) (fun i => s.size - (intOf i).toNat)
    case atStart => exact ⟨0, Nat.zero_le _, rfl, by rw [pre_zero]; exact plcs_nil⟩
    case round =>
      obtain ⟨k, hk, rfl, hall⟩ := hrel
      by_cases hlt : k < s.size
      · have HP : Hid (plc s[k] → Hid (plcs (pre s (k + 1)))) := fun h => plcs_take s k hlt hall.out h
        have HQ : Hid (¬ plc s[k] → R = 5) := fun h => by
          rw [← HR.out]
          unfold chkS
          rw [if_neg h18, if_neg]
          rintro ⟨h1, _⟩
          exact h (plc_at ((allP_iff s).1 h1) k hlt)
        by_cases hp : plc s[k]
        · have HP' := HP.out hp
          unfold plc at hp
          clear HP HQ
          by_cases h88 : s[k].toNat = 88
          · have hb1 : (s[k].toNat : Int) = 88 := by omega
            clear hp h88
            go_wp2
            go_round
            case rel => exact ⟨k + 1, by omega, by go_num, HP'⟩
            case measure => simp [intOf]; omega
          · have hb1 : ((s[k].toNat : Int) != 88) = true := by rw [bne_iff_ne]; omega
            have hb4 : ¬ (s[k].toNat : Int) = 88 := by omega
            have hb2 : 48 ≤ (s[k].toNat : Int) := by omega
            have hb3 : (s[k].toNat : Int) ≤ 57 := by omega
            clear hp h88
            go_wp2
            go_round
            case rel => exact ⟨k + 1, by omega, by go_num, HP'⟩
            case measure => simp [intOf]; omega
        · have HQ' : Hid (R = 5) := HQ.out hp
          unfold plc at hp
          clear HP HQ hall
          have hb1 : ((s[k].toNat : Int) != 88) = true := by rw [bne_iff_ne]; omega
          have hb4 : ¬ (s[k].toNat : Int) = 88 := by omega
          by_cases hx : (s[k].toNat : Int) < 48
          all_goals
            try have hy : 57 < (s[k].toNat : Int) := by omega
            try have hz : 48 ≤ (s[k].toNat : Int) := by omega
            try have hy2 : ¬ (s[k].toNat : Int) ≤ 57 := by omega
            clear hp
            go_wp2
            any_goals (go_ret; exact ⟨ret_i HQ'.out.symm, rfl⟩)
            all_goals (exfalso; clear HR HQ' hs h18; simp_all <;> omega)
      · obtain rfl : k = s.size := by omega
        by_cases h0 : s.size = 0
        · have HQ' : Hid (R = 5) := by
            show _ = _
            rw [← HR.out]
            unfold chkS
            rw [if_neg h18, if_neg]
            rintro ⟨_, h1⟩; omega
          have hb : ((s.size : Int) == 0) = true := by rw [beq_iff_eq]; omega
          clear hall hlt h0
          go_wp2
          go_ret
          exact ⟨ret_i HQ'.out.symm, rfl⟩
        · have HQ' : Hid (R = 0) := by
            show _ = _
            rw [← HR.out, chkS_ok]
            refine ⟨by rw [← pre_all]; exact hall.out, by omega, by omega⟩
          have hb : ((s.size : Int) == 0) = false := by rw [beq_eq_false_iff_ne]; omega
          clear hall hlt h0
          go_wp2
          go_ret
          exact ⟨ret_i HQ'.out.symm, rfl⟩
end Go.Proofs.Ythgnoeigjngniaa
