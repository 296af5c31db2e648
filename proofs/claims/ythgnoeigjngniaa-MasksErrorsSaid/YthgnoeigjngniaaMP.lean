/- Next and Prev of package masks: with Check, Count, Least, Greatest, Has, Nth, Index and Common (in the texts ahead) all that the package's functions return of whatever string and number. -/
import Derived.Test.YthgnoeigjngniaaMG
namespace Go.Proofs.Ythgnoeigjngniaa
open Go.RowKit

variable (s : ByteArray) (n : Int) (w : World)
set_option maxHeartbeats 800000 in
theorem next_any (hs : s.size ≤ maxLen) (h0 : -9223372036854775808 ≤ n) (h1 : n ≤ 9223372036854775807) :
    Calls Try.prog 24 #[.string s, .int .i64 n] w fun e w' => e = .returned (mk2 s (optV (nextS (rv s) n)) (errO (nextS (rv s) n))) ∧ Below w.heap.size w w' := by
  by_cases h : chkS s = 0
  · have hm := mask_of h
    rw [mk2_ok hm]
    have HC : Hid (∀ W, Calls Try.prog 15 #[.string s] W fun e w' => e = .returned (.int .i64 0) ∧ Below W.heap.size W w') := fun W => by have := check_any s W hs; rwa [h] at this
    have HN : Hid (∀ W, Calls Try.prog 41 #[.string s, .int .i64 n] W fun e w' => e = .returned (.tuple #[.int .i64 (optV (nextS (rv s) n)), .int .i64 (errO (nextS (rv s) n))]) ∧ Below W.heap.size W w') := fun W => nextI_any s n W hm h0 h1
    clear h hm
    generalize optV (nextS (rv s) n) = x at *
    generalize errO (nextS (rv s) n) = y at *
    go_enter Try.func24, Try.ntmps24
    go_wp2_with (first
      | (go_at_call 15; refine (HC.out _).mono ?_; rintro e w1 ⟨rfl, hb⟩)
      | (go_at_call 41; refine (HN.out _).mono ?_; rintro e w2 ⟨rfl, hb2⟩))
    go_ret2
    exact ⟨rfl, bthen hb hb2⟩
  · rw [mk2_bad h]
    have HC : Hid (∀ W, Calls Try.prog 15 #[.string s] W fun e w' => e = .returned (.int .i64 (chkS s)) ∧ Below W.heap.size W w') := fun W => check_any s W hs
    generalize chkS s = E at *
    go_enter Try.func24, Try.ntmps24
    go_wp2_with (go_at_call 15; refine (HC.out _).mono ?_; rintro e w1 ⟨rfl, hb⟩)
    go_ret2
    exact ⟨rfl, hb⟩
set_option maxHeartbeats 800000 in
theorem prev_any (hs : s.size ≤ maxLen) (h0 : -9223372036854775808 ≤ n) (h1 : n ≤ 9223372036854775807) :
    Calls Try.prog 25 #[.string s, .int .i64 n] w fun e w' => e = .returned (mk2 s (optV (prevS (rv s) n)) (errO (prevS (rv s) n))) ∧ Below w.heap.size w w' := by
  by_cases h : chkS s = 0
  · have hm := mask_of h
    rw [mk2_ok hm]
    have HC : Hid (∀ W, Calls Try.prog 15 #[.string s] W fun e w' => e = .returned (.int .i64 0) ∧ Below W.heap.size W w') := fun W => by have := check_any s W hs; rwa [h] at this
    by_cases hn : n < 0
    · have hr : prevS (rv s) n = none := prevS_out hm.plcs fun u hu => by
        obtain ⟨i, _, rfl⟩ := hasI_idx hu
        omega
      rw [hr]
      clear h hm hr
      go_enter Try.func25, Try.ntmps25
      go_wp2_with (go_at_call 15; refine (HC.out _).mono ?_; rintro e w1 ⟨rfl, hb⟩)
      go_ret2
      exact ⟨rfl, hb⟩
    · have hp1 := pten_pos s.size
      have hp2 := pten_le hm.le
      have HN : Hid (∀ W, Calls Try.prog 42 #[.string s] W fun e w' => e = .returned (.int .i64 (pten s.size - 1)) ∧ W = w') := fun W => nines_any s W hm.le
      have HM : Hid (∀ W, Calls Try.prog 43 #[.string s] W fun e w' => e = .returned (.string (mirS s)) ∧ Below W.heap.size W w') := fun W => mirrored_any s W hm
      have HX : Hid (∀ W, Calls Try.prog 41 #[.string (mirS s), .int .i64 (pten s.size - 1 - n)] W fun e w' => e = .returned (.tuple #[.int .i64 (optV (nextS (rv (mirS s)) (pten s.size - 1 - n))), .int .i64 (errO (nextS (rv (mirS s)) (pten s.size - 1 - n)))]) ∧ Below W.heap.size W w') := fun W => nextI_any (mirS s) _ W (mirS_mask hm) (by omega) (by omega)
      have hr := mir_prev hm.plcs (mirS_size s) (mirS_sat s) (n := n) (by omega)
      rw [show ((10 ^ s.size : Nat) : Int) = pten s.size from rfl] at hr
      have hlt : ∀ v, nextS (rv (mirS s)) (pten s.size - 1 - n) = some v → v < 10 ^ s.size := fun v hv => by
        have := rv_lt (mirS_mask hm).plcs (nextS_some (mirS_mask hm).plcs hv).1
        rwa [mirS_size] at this
      rw [hr]
      clear hr h hm
      generalize nextS (rv (mirS s)) (pten s.size - 1 - n) = o at *
      generalize mirS s = m at *
      cases o with
      | none =>
        clear hlt
        generalize pten s.size = p at *
        have HX' : Hid (∀ W, Calls Try.prog 41 #[.string m, .int .i64 (p - 1 - n)] W fun e w' => e = .returned (.tuple #[.int .i64 0, .int .i64 16]) ∧ Below W.heap.size W w') := HX.out
        clear HX
        go_enter Try.func25, Try.ntmps25
        go_wp2_with (first
          | (go_at_call 15; refine (HC.out _).mono ?_; rintro e w1 ⟨rfl, hb⟩)
          | (go_at_call 42; refine (HN.out _).mono ?_; rintro e w2 ⟨rfl, rfl⟩)
          | (go_at_call 43; refine (HM.out _).mono ?_; rintro e w2 ⟨rfl, hb2⟩)
          | (go_at_call 41; refine (HX'.out _).mono ?_; rintro e w3 ⟨rfl, hb3⟩))
        go_ret2
        exact ⟨rfl, bthen (bthen hb hb2) hb3⟩
      | some v =>
        have hv := hlt v rfl
        have HV : Hid (pten s.size - 1 - (v : Int) = ((10 ^ s.size - 1 - v : Nat) : Int)) := by show _ = _; unfold pten; omega
        have hv2 : (v : Int) < pten s.size := by unfold pten; omega
        have HR : Hid (optV (Option.map (fun v => 10 ^ s.size - 1 - v) (some v)) = pten s.size - 1 - (v : Int)) := HV.out.symm
        have HE : Hid (errO (Option.map (fun v => 10 ^ s.size - 1 - v) (some v)) = 0) := rfl
        rw [HR.out, HE.out]
        clear hlt hv HV HR HE
        generalize pten s.size = p at *
        have HX' : Hid (∀ W, Calls Try.prog 41 #[.string m, .int .i64 (p - 1 - n)] W fun e w' => e = .returned (.tuple #[.int .i64 (v : Nat), .int .i64 0]) ∧ Below W.heap.size W w') := HX.out
        clear HX
        go_enter Try.func25, Try.ntmps25
        go_wp2_with (first
          | (go_at_call 15; refine (HC.out _).mono ?_; rintro e w1 ⟨rfl, hb⟩)
          | (go_at_call 42; refine (HN.out _).mono ?_; rintro e w2 ⟨rfl, rfl⟩)
          | (go_at_call 43; refine (HM.out _).mono ?_; rintro e w2 ⟨rfl, hb2⟩)
          | (go_at_call 41; refine (HX'.out _).mono ?_; rintro e w3 ⟨rfl, hb3⟩))
        go_ret2
        exact ⟨rfl, bthen (bthen hb hb2) hb3⟩
  · rw [mk2_bad h]
    have HC : Hid (∀ W, Calls Try.prog 15 #[.string s] W fun e w' => e = .returned (.int .i64 (chkS s)) ∧ Below W.heap.size W w') := fun W => check_any s W hs
    generalize chkS s = E at *
    go_enter Try.func25, Try.ntmps25
    go_wp2_with (go_at_call 15; refine (HC.out _).mono ?_; rintro e w1 ⟨rfl, hb⟩)
    go_ret2
    exact ⟨rfl, hb⟩
end Go.Proofs.Ythgnoeigjngniaa
