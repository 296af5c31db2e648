/- Package seasons: begun, the year in which the run of a code begins that has a month. -/
import Derived.Test.YtcabcmlnmpfhkaaDoorSeaT
namespace Go.Proofs.YtcabcmlnmpfhkaaDoor
open Go.RowKit

theorem aE_ok {y m k : Int} (h1 : yr y = true) (h2 : mo m = true) : aE y m k = if yr (adY y m k) = true then 0 else 6 := if_pos (mE_in h1 h2)
theorem aV_in {y m k : Int} (h1 : yr y = true) (h2 : mo m = true) (h3 : yr (adY y m k) = true) (v : Int) : aV y m k v = v := if_pos ⟨mE_in h1 h2, h3⟩
theorem aV_out {y m k : Int} (h : yr (adY y m k) = false) (v : Int) : aV y m k v = 0 := if_neg fun q => by rw [h] at q; cases q.2
/-- Add of a month of the calendar, in whatever world the tables lie. -/
theorem add_in {w X : World} (hs : Start w) (hX : Below w.heap.size w X) {y m k : Int} (hy : yr y = true) (hm : mo m = true) (hk : I64 k) {z n : Int} (hz : adY y m k = z) (hn : adM y m k = n) (hyz : yr z = true) :
    Calls Tryd.prog 22 #[.int .i64 y, .int .i64 m, .int .i64 k] X fun e w' => e = .returned (.tuple #[.int .i64 z, .int .i64 n, .int .i64 0]) ∧ Below X.heap.size X w' := by
  subst hz hn
  have h1 := (yr_iff y).1 hy
  have h2 := (mo_iff m).1 hm
  have := madd_any y m X (hs.below hX).1 (by unfold I64; omega) (by unfold I64; omega) k hk
  rw [aV_in hy hm hyz, aV_in hy hm hyz, aE_ok hy hm, if_pos hyz] at this
  exact this
theorem add_out {w X : World} (hs : Start w) (hX : Below w.heap.size w X) {y m k : Int} (hy : yr y = true) (hm : mo m = true) (hk : I64 k) (hyz : yr (adY y m k) = false) :
    Calls Tryd.prog 22 #[.int .i64 y, .int .i64 m, .int .i64 k] X fun e w' => e = .returned (.tuple #[.int .i64 0, .int .i64 0, .int .i64 6]) ∧ Below X.heap.size X w' := by
  have h1 := (yr_iff y).1 hy
  have h2 := (mo_iff m).1 hm
  have := madd_any y m X (hs.below hX).1 (by unfold I64; omega) (by unfold I64; omega) k hk
  rw [aV_out hyz, aV_out hyz, aE_ok hy hm, hyz] at this
  exact this
set_option maxRecDepth 100000 in
set_option maxHeartbeats 1600000 in
theorem begun_any (y m c : Int) (w : World) (hs : Start w) (hy : yr y = true) (hm : 1 ≤ m ∧ m ≤ 12) (hc : isC c = true) :
    Calls Tryd.prog 29 #[.int .i64 y, .int .i64 m, .int .i64 c] w fun e w' => e = .returned (.tuple #[.int .i64 (bgY y m c), .bool (bgB y m c)]) ∧ Below w.heap.size w w' := by
  have hf := sFN hc
  have hcb := (isC_iff c).1 hc
  have hmo := (mo_iff m).2 hm
  have hp := psd_bd m c
  have HR := Lib.hid (fun X (hX : Below w.heap.size w X) => (hs.2.below hX).row hc)
  have hsz := hs.2.size
  have HP : Hid ((m - (sF c : Nat) + 12) % 12 = psd m c) := rfl
  have HA0 : Hid (yr (bgn y m c) = false → ∀ X, Below w.heap.size w X → Calls Tryd.prog 22 #[.int .i64 y, .int .i64 m, .int .i64 (-psd m c)] X fun e w' => e = .returned (.tuple #[.int .i64 0, .int .i64 0, .int .i64 6]) ∧ Below X.heap.size X w') :=
    fun h X hX => add_out hs hX hy hmo (by unfold I64; omega) h
  have HA1 : Hid (yr (bgn y m c) = true → ∃ n, ∀ X, Below w.heap.size w X → Calls Tryd.prog 22 #[.int .i64 y, .int .i64 m, .int .i64 (-psd m c)] X fun e w' => e = .returned (.tuple #[.int .i64 (bgn y m c), .int .i64 n, .int .i64 0]) ∧ Below X.heap.size X w') :=
    fun h => ⟨_, fun X hX => add_in hs hX hy hmo (by unfold I64; omega) rfl rfl h⟩
  have HB0 : Hid (yr (bgn y m c) = true → yr (adY (bgn y m c) (sF c : Nat) ((sN c : Nat) - 1)) = false → ∀ X, Below w.heap.size w X → Calls Tryd.prog 22 #[.int .i64 (bgn y m c), .int .i64 (sF c : Nat), .int .i64 ((sN c : Nat) - 1)] X fun e w' => e = .returned (.tuple #[.int .i64 0, .int .i64 0, .int .i64 6]) ∧ Below X.heap.size X w') :=
    fun h h' X hX => add_out hs hX h ((mo_iff _).2 (by omega)) (by unfold I64; omega) h'
  have HB1 : Hid (yr (bgn y m c) = true → yr (adY (bgn y m c) (sF c : Nat) ((sN c : Nat) - 1)) = true → ∃ z n, ∀ X, Below w.heap.size w X → Calls Tryd.prog 22 #[.int .i64 (bgn y m c), .int .i64 (sF c : Nat), .int .i64 ((sN c : Nat) - 1)] X fun e w' => e = .returned (.tuple #[.int .i64 z, .int .i64 n, .int .i64 0]) ∧ Below X.heap.size X w') :=
    fun h h' => ⟨_, _, fun X hX => add_in hs hX h ((mo_iff _).2 (by omega)) (by unfold I64; omega) rfl rfl h'⟩
  have hbB : bgB y m c = (decide (psd m c < (sN c : Nat)) && (yr (bgn y m c) && yr (adY (bgn y m c) (sF c : Nat) ((sN c : Nat) - 1)))) := rfl
  have hbY : bgY y m c = if bgB y m c = true then bgn y m c else 0 := rfl
  have HBB := Lib.hid hbB
  have HBY := Lib.hid hbY
  generalize bgB y m c = BB at *
  generalize bgY y m c = BY at *
  generalize yr (adY (bgn y m c) (sF c : Nat) ((sN c : Nat) - 1)) = u2 at *
  generalize hu1 : yr (bgn y m c) = u1 at *
  clear hu1
  generalize bgn y m c = b at *
  generalize psd m c = p at *
  generalize sF c = F at *
  generalize sN c = N at *
  obtain ⟨hc0, hc1⟩ := hcb
  obtain ⟨hp0, hp1⟩ := hp
  obtain ⟨f1, f2, f3, f4, -⟩ := hf
  obtain ⟨m1, m2⟩ := hm
  clear hs hy hmo hc hbB hbY
  go_enter Tryd.func29, Tryd.ntmps29
  obtain ⟨q0, q1⟩ := HR.out _ (Below.refl _ w)
  go_upto_region 2 with fail
  obtain ⟨n0, n1, hb2⟩ := two_new w F N (Below.refl _ w)
  have hlt : w.heap.size < (w.alloc (Obj.cells #[Value.int IntKind.i64 F, Value.int IntKind.i64 N] 54)).heap.size := by simp
  generalize hW2 : (w.alloc (Obj.cells #[Value.int IntKind.i64 F, Value.int IntKind.i64 N] 54)) = W2 at *
  clear q0 q1 HR hW2
  go_upto_region 3 with fail
  rw [HP.out]
  clear HP
  by_cases hpN : p < (N : Int)
  · have hge : ¬ (N : Int) ≤ p := by omega
    rw [decide_eq_true hpN, Bool.true_and] at HBB
    clear hpN
    cases u1 with
    | false =>
      have HA := Lib.hid (HA0.out rfl)
      clear HA0 HA1 HB0 HB1
      obtain rfl : BB = false := HBB.out
      obtain rfl : BY = 0 := HBY.out
      clear HBB HBY
      go_wp2_with (go_at_call 22; ((with_reducible refine (HA.out _ hb2).mono ?_); rintro e w3 ⟨rfl, hb3⟩))
      go_ret2
      exact ⟨rfl, hb2.trans (hb3.mono hb2.size)⟩
    | true =>
      obtain ⟨n, HA⟩ := HA1.out rfl
      have HA' := Lib.hid HA
      clear HA0 HA1 HA
      have HC0 : Hid (∀ X, Below W2.heap.size W2 X → X.cell? ⟨w.heap.size, 0, none⟩ = some (.int .i64 F) ∧ X.cell? ⟨w.heap.size, 1, none⟩ = some (.int .i64 N)) := fun X hX => ⟨(hX.cell (p := ⟨w.heap.size, 0, none⟩) hlt).trans n0, (hX.cell (p := ⟨w.heap.size, 1, none⟩) hlt).trans n1⟩
      cases u2 with
      | false =>
        have HB := Lib.hid (HB0.out rfl rfl)
        clear HB0 HB1
        obtain rfl : BB = false := HBB.out
        obtain rfl : BY = 0 := HBY.out
        clear HBB HBY
        go_upto_region 6 with (go_at_call 22; ((with_reducible refine (HA'.out _ hb2).mono ?_); rintro e w3 ⟨rfl, hb3⟩))
        obtain ⟨k0, k1⟩ := HC0.out _ hb3
        have hbw := hb2.trans (hb3.mono hb2.size)
        clear n0 n1 hb3 HC0 HA'
        go_wp2_with (go_at_call 22; ((with_reducible refine (HB.out _ hbw).mono ?_); rintro e w4 ⟨rfl, hb4⟩))
        go_ret2
        exact ⟨rfl, hbw.trans (hb4.mono hbw.size)⟩
      | true =>
        obtain ⟨zz, nn, HB⟩ := HB1.out rfl rfl
        have HB' := Lib.hid HB
        clear HB0 HB1 HB
        obtain rfl : BB = true := HBB.out
        obtain rfl : BY = b := HBY.out
        clear HBB HBY
        go_upto_region 6 with (go_at_call 22; ((with_reducible refine (HA'.out _ hb2).mono ?_); rintro e w3 ⟨rfl, hb3⟩))
        obtain ⟨k0, k1⟩ := HC0.out _ hb3
        have hbw := hb2.trans (hb3.mono hb2.size)
        clear n0 n1 hb3 HC0 HA'
        go_wp2_with (go_at_call 22; ((with_reducible refine (HB'.out _ hbw).mono ?_); rintro e w4 ⟨rfl, hb4⟩))
        go_ret2
        exact ⟨rfl, hbw.trans (hb4.mono hbw.size)⟩
  · have hge : (N : Int) ≤ p := by omega
    rw [decide_eq_false hpN, Bool.false_and] at HBB
    obtain rfl : BB = false := HBB.out
    obtain rfl : BY = 0 := HBY.out
    clear HA0 HA1 HB0 HB1 hpN HBB HBY
    go_wp2
    go_ret2
    exact ⟨rfl, hb2⟩
end Go.Proofs.YtcabcmlnmpfhkaaDoor
