/- The reference of years (circaref04): how many leap years there are. -/
import Derived.Test.YtcecolmpnllfhaaDoorYRef
namespace Go.Proofs.YtcecolmpnllfhaaDoor
open Go.RowKit

theorem lps_mono {a b : Int} (h : a ≤ b) : lps a ≤ lps b ∧ lps b ≤ lps a + (b - a) := by
  obtain ⟨n, rfl⟩ : ∃ n : Nat, b = a + n := ⟨(b - a).toNat, by omega⟩
  clear h
  induction n with
  | zero => simp
  | succ n ih =>
    have h1 := lps_succ (a + ((n + 1 : Nat) : Int))
    have h2 := lenI_bd (a + ((n + 1 : Nat) : Int))
    rw [show a + ((n + 1 : Nat) : Int) - 1 = a + (n : Int) by omega] at h1
    omega

set_option maxHeartbeats 800000 in
theorem lpsR_any (a b : Int) (w : World) (ha : -10000000000000000 ≤ a) (ha' : a ≤ 10000000000000000) (hb : -10000000000000000 ≤ b) (hb' : b ≤ 10000000000000000) :
    Calls Tryd.prog 22 #[.int .i64 a, .int .i64 b] w fun e w' => e = .returned (.int .i64 (lpsI a b)) ∧ w = w' := by
  by_cases hab : b < a
  · have hr : lpsI a b = 0 := if_pos hab
    rw [hr]
    clear hr
    go_enter Tryd.func22, Tryd.ntmps22
    go_wp2
    go_ret
    exact ⟨rfl, rfl⟩
  · have hr : lpsI a b = lps b - lps (a - 1) := if_neg hab
    rw [hr]
    obtain ⟨n, hn⟩ : ∃ n : Int, (b - a).tdiv 400 = n := ⟨_, rfl⟩
    have hn1 : 0 ≤ n ∧ 400 * n ≤ b - a ∧ b - a < 400 * n + 400 := by
      rw [Int.tdiv_eq_ediv_of_nonneg (by omega)] at hn; omega
    obtain ⟨hn2, hn3, hn4⟩ := hn1
    have hL : Hid (∀ k w, Calls Tryd.prog 16 #[.int .i64 k] w fun e w' => e = .returned (.bool (lpB k)) ∧ w = w') := fun k w => lpR_any k w
    have HZ : Hid (97 * n = lps (a + 400 * n - 1) - lps (a - 1)) := by
      show _ = _
      rw [show a + 400 * n - 1 = (a - 1) + 400 * n by omega, lps_400]; omega
    have HM : Hid (∀ y : Int, a ≤ y → y ≤ b + 1 → 0 ≤ lps (y - 1) - lps (a - 1) ∧ lps (y - 1) - lps (a - 1) ≤ 20000000000000002) := fun y h1 h2 => by
      have := lps_mono (show a - 1 ≤ y - 1 by omega); omega
    clear hr
    go_enter Tryd.func22, Tryd.ntmps22
    go_wp2
    go_loop [6, 7] (fun m k => ∃ y : Int, a ≤ y ∧ y ≤ b + 1 ∧ a + 400 * n ≤ y ∧ k = .int .i64 y ∧ m = .int .i64 (lps (y - 1) - lps (a - 1))) (fun _ k => (b + 1 - intOf k).toNat)
    case atStart => exact ⟨a + 400 * n, by omega, by omega, by omega, rfl, by rw [← HZ.out]⟩
    case round =>
      obtain ⟨y, hy0, hy1, hy2, rfl, rfl⟩ := hrel
      obtain ⟨hm0, hm1⟩ := HM.out y hy0 hy1
      by_cases hlt : y ≤ b
      · have hs := lps_succ y
        have hl := lenI_lp y
        cases hlp : lpB y
        · rw [hlp] at hl
          have HS : Hid (lps (y - 1) - lps (a - 1) = lps (y + 1 - 1) - lps (a - 1)) := by
            show _ = _
            rw [show y + 1 - 1 = y by omega]; simp at hl; omega
          have hL1 := hL.out y w
          rw [hlp] at hL1
          have HL1 := Lib.hid hL1
          clear hs hl hlp hL1
          generalize lps (y - 1) - lps (a - 1) = m at *
          go_wp2_with (go_at_call 16; refine HL1.out.mono ?_; rintro e w' ⟨rfl, rfl⟩)
          go_round
          case rel => exact ⟨y + 1, by omega, by omega, by omega, rfl, by rw [HS.out]⟩
          case measure => simp [intOf]; omega
        · rw [hlp] at hl
          have HS : Hid (lps (y - 1) - lps (a - 1) + 1 = lps (y + 1 - 1) - lps (a - 1)) := by
            show _ = _
            rw [show y + 1 - 1 = y by omega]; simp at hl; omega
          have hL1 := hL.out y w
          rw [hlp] at hL1
          have HL1 := Lib.hid hL1
          clear hs hl hlp hL1
          generalize lps (y - 1) - lps (a - 1) = m at *
          go_wp2_with (go_at_call 16; refine HL1.out.mono ?_; rintro e w' ⟨rfl, rfl⟩)
          go_round
          case rel => exact ⟨y + 1, by omega, by omega, by omega, rfl, by rw [HS.out]⟩
          case measure => simp [intOf]; omega
      · have HR : Hid (lps (y - 1) - lps (a - 1) = lps b - lps (a - 1)) := by show _ = _; rw [show y - 1 = b by omega]
        generalize lps (y - 1) - lps (a - 1) = m at *
        go_wp2
        go_ret
        exact ⟨ret_i HR.out, rfl⟩
end Go.Proofs.YtcecolmpnllfhaaDoor
