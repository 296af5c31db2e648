/- The reference of civil days (circaref06): numbers of two digits, and whether a text is made of digits. -/
import Derived.Test.YtiemlpmhhbmfiaaGreatDoorCivS
namespace Go.Proofs.YtiemlpmhhbmfiaaGreatDoor
open Go.RowKit

def twoS (n : Nat) : ByteArray := ⟨#[UInt8.ofNat (48 + n / 10), UInt8.ofNat (48 + n % 10)]⟩
theorem u8_of {k : Nat} (h : k < 256) : ((UInt8.ofNat k).toNat : Int) = k := by rw [UInt8.toNat_ofNat', Nat.mod_eq_of_lt h]
theorem twoR_any (n : Nat) (w : World) (hn : n ≤ 99) :
    Calls Tryz.prog 56 #[.int .i64 n] w fun e w' => e = .returned (.string (twoS n)) ∧ Below w.heap.size w w' := by
  have v1 : (n : Int).tdiv 10 = ((n / 10 : Nat) : Int) := by rw [Int.tdiv_eq_ediv_of_nonneg (by omega)]; omega
  have v2 : (n : Int).tmod 10 = ((n % 10 : Nat) : Int) := by rw [Int.tmod_eq_emod_of_nonneg (by omega)]; omega
  obtain ⟨a, ha⟩ : ∃ a, n / 10 = a := ⟨_, rfl⟩
  obtain ⟨b, hb⟩ : ∃ b, n % 10 = b := ⟨_, rfl⟩
  have a9 : a ≤ 9 := by omega
  have b9 : b ≤ 9 := by omega
  have HR : Hid (twoS n = ⟨#[UInt8.ofNat (48 + a), UInt8.ofNat (48 + b)]⟩) := by show _ = _; unfold twoS; rw [ha, hb]
  rw [ha] at v1
  rw [hb] at v2
  have hconv : (convert 82 9 (.slice (some ⟨w.heap.size, 0, none⟩) 2 2)).run Tryz.prog (w.alloc (.cells #[.int .u8 (48 + (a : Int)), .int .u8 (48 + (b : Int))] 5)) =
      .ok (.string ⟨#[UInt8.ofNat (48 + a), UInt8.ofNat (48 + b)]⟩) (w.alloc (.cells #[.int .u8 (48 + (a : Int)), .int .u8 (48 + (b : Int))] 5)) := by
    have e1 := u8_of (k := 48 + a) (by omega)
    have e2 := u8_of (k := 48 + b) (by omega)
    refine run_convert_bytes_back (P := Tryz.prog) _ _ _ 5 ⟨w.heap.size, 0, none⟩ 2 [UInt8.ofNat (48 + a), UInt8.ofNat (48 + b)] Tryz.underlying82 Tryz.underlying5 Tryz.underlying9 fun j hj => ?_
    have hc := cell_of_row (w.alloc (.cells #[.int .u8 (48 + (a : Int)), .int .u8 (48 + (b : Int))] 5)) w.heap.size j _ _ (0, 0) (heap_alloc_new w _)
    match j, hj with
    | 0, _ =>
      rw [show (⟨w.heap.size, 0, none⟩ : Addr).add 0 = ⟨w.heap.size, 0, none⟩ by rfl, hc]
      show some (Value.int .u8 (48 + (a : Int))) = _
      rw [show (48 : Int) + (a : Int) = ((48 + a : Nat) : Int) by omega, ← e1]; rfl
    | 1, _ =>
      rw [show (⟨w.heap.size, 0, none⟩ : Addr).add 1 = ⟨w.heap.size, 1, none⟩ by rfl, hc]
      show some (Value.int .u8 (48 + (b : Int))) = _
      rw [show (48 : Int) + (b : Int) = ((48 + b : Nat) : Int) by omega, ← e2]; rfl
  obtain ⟨T, hT⟩ : ∃ T : ByteArray, T = ⟨#[UInt8.ofNat (48 + a), UInt8.ofNat (48 + b)]⟩ := ⟨_, rfl⟩
  rw [← hT] at hconv HR
  clear ha hb hT
  go_enter Tryz.func56, Tryz.ntmps56
  go_wp2_with fail
  go_ret
  exact ⟨by rw [HR.out]; rfl, by go_grown⟩

theorem size_l (s : ByteArray) : s.size = s.data.toList.length := by rw [Array.length_toList]; rfl
def digB (c : UInt8) : Bool := decide (48 ≤ c.toNat ∧ c.toNat ≤ 57)
def digS (s : ByteArray) : Bool := s.data.toList.all digB
theorem dig_take (s : ByteArray) (k : Nat) (h : k < s.size) : (s.data.toList.take (k + 1)).all digB = ((s.data.toList.take k).all digB && digB s[k]) := by
  rw [List.take_succ_eq_append_getElem (by simpa using h), List.all_append]
  simp only [List.all_cons, List.all_nil, Bool.and_true]
  rfl
theorem dig_not (s : ByteArray) (k : Nat) (h : k < s.size) (hd : digB s[k] = false) : digS s = false := by
  unfold digS
  rw [List.all_eq_false]
  refine ⟨s[k], ?_, by simp [hd]⟩
  have : s[k] = s.data.toList[k]'(by simpa using h) := rfl
  rw [this]
  exact List.getElem_mem _

set_option maxHeartbeats 400000 in
set_option maxRecDepth 100000 in
theorem digR_any (s : ByteArray) (w : World) (hs : s.size ≤ 9223372036854775807) :
    Calls Tryz.prog 57 #[.string s] w fun e w' => e = .returned (.bool (digS s)) ∧ w = w' := by
  go_enter Tryz.func57, Tryz.ntmps57
  go_wp2
  go_loop [3] (fun i => ∃ k : Nat, k ≤ s.size ∧ i = .int .i64 k ∧ Hid ((s.data.toList.take k).all digB = true)) (fun i => s.size - (intOf i).toNat)
  case atStart => exact ⟨0, Nat.zero_le _, rfl, Lib.hid (by simp)⟩
  case round =>
    obtain ⟨k, hk, rfl, hall⟩ := hrel
    by_cases hlt : k < s.size
    · have hsn := dig_take s k hlt
      have hnot := dig_not s k hlt
      by_cases hd1 : 48 ≤ (s[k].toNat : Int) ∧ (s[k].toNat : Int) ≤ 57
      · have HN : Hid ((s.data.toList.take (k + 1)).all digB = true) := by
          show _ = _
          rw [hsn, hall.out, show digB s[k] = true by unfold digB; rw [decide_eq_true_eq]; omega]; rfl
        obtain ⟨hx, hy⟩ := hd1
        clear hsn hnot
        go_wp2
        go_round
        case rel => exact ⟨k + 1, by omega, by go_num, HN⟩
        case measure => simp [intOf]; omega
      · have HN : Hid (digS s = false) := hnot (by unfold digB; rw [decide_eq_false_iff_not]; omega)
        clear hsn hnot
        by_cases hx : (s[k].toNat : Int) < 48
        all_goals
          try have hy : 57 < (s[k].toNat : Int) := by omega
          clear hd1
          go_wp2
          go_ret
          exact ⟨ret_b HN.out.symm, rfl⟩
    · have hke : k = s.size := by omega
      have HN : Hid (digS s = true) := by
        have := hall.out
        show s.data.toList.all digB = true
        rwa [List.take_of_length_le (by rw [hke, size_l]; exact Nat.le_refl _)] at this
      clear hke
      go_wp2
      go_ret
      exact ⟨ret_b HN.out.symm, rfl⟩
end Go.Proofs.YtiemlpmhhbmfiaaGreatDoor
