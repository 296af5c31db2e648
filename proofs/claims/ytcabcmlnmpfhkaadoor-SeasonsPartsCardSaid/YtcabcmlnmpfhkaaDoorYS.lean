/- Package years: the year of a day: the closure that is searched by, the search, and Of. -/
import Derived.Test.YtcabcmlnmpfhkaaDoorYC
import Derived.Deep.RegionHeld3
import Derived.Deep.RegionWith
import Derived.Deep.CutRange
import Derived.Deep.DeepCutAuto
import Derived.Deep.CutBlock
import Derived.Deep.LoopGhost
import Derived.Deep.Cut
import Derived.IntWalk
import Derived.RegionTactic
namespace Go.Proofs.YtcabcmlnmpfhkaaDoor
open Go.RowKit

theorem clo_any (a1 a2 : Addr) (day first i p q : Int) (W : World) (hs : StartY W) (h1 : a1.block < W.heap.size) (h2 : a2.block < W.heap.size)
    (c1 : W.cell? a1 = some (.int .i64 day)) (c2 : W.cell? a2 = some (.int .i64 first)) (hp : p = first + i) (hq : q = p + 1) (hb0 : -20000000000000000 ≤ first) (hb1 : first ≤ 19000000000000000) (hi0 : 0 ≤ i) (hi1 : i ≤ 1000) :
    Calls Tryd.prog 48 #[.int .i64 i, .pointer (some a1), .pointer (some a2)] W fun e w' => e = .returned (.bool (decide (day < stI q))) ∧ Below W.heap.size W w' := by
  have KC : Hid (∀ X, Below W.heap.size W X → Calls Tryd.prog 46 #[.int .i64 q] X fun e w' => e = .returned (.int .i64 (stI q)) ∧ Below W.heap.size W w') :=
    fun X hX => (pst_any q X (hs.below hX) (by omega) (by omega)).mono fun _ _ ⟨h1, h2⟩ => ⟨h1, hX.trans (h2.mono hX.size)⟩
  have w1 : IntKind.i64.wrap (first + i) = p := by rw [hp]; exact IntWalk.i64_in _ (by omega)
  have w2 : IntKind.i64.wrap (p + 1) = q := by rw [hq]; exact IntWalk.i64_in _ (by omega)
  clear hp hq hb0 hb1 hi0 hi1 hs
  generalize stI q = S at *
  go_enter Tryd.func48, Tryd.ntmps48
  go_wp2
  go_region_held3 (fun w' => w'.cell? a1 = some (.int .i64 day) ∧ w'.cell? a2 = some (.int .i64 first)) (go_keep)
    ((go_at_call 46; ((with_reducible refine (KC.out _ (by go_grown)).mono ?_); rintro e x1 ⟨rfl, hX1⟩; have k0 := (hX1.cell (p := a1) h1).trans c1; have k1 := (hX1.cell (p := a2) h2).trans c2)))
  all_goals
    go_wp2_with fail
    go_ret
    exact ⟨rfl, hX1⟩

/-- sort.Search with that closure: a place where it turns. -/
def InvS (n : Nat) (p : Nat → Bool) (lo hi : Nat) : Prop := (lo = 0 ∨ p (lo - 1) = false) ∧ (hi = n ∨ p hi = true)
set_option maxHeartbeats 1000000 in
theorem srch_any (a1 a2 : Addr) (n : Nat) (p : Nat → Bool) (w : World) (hn : n < 4611686018427387904)
    (hf : ∀ X, Below w.heap.size w X → ∀ i : Nat, i < n → Calls Tryd.prog 48 #[.int .i64 i, .pointer (some a1), .pointer (some a2)] X fun e w' => e = .returned (.bool (p i)) ∧ Below w.heap.size w w') :
    Calls Tryd.prog 49 #[.int .i64 n, .func (.func 48) #[] #[.pointer (some a1), .pointer (some a2)]] w fun e w' => ∃ r : Nat, e = .returned (.int .i64 r) ∧ r ≤ n ∧ InvS n p r r ∧ Below w.heap.size w w' := by
  have HF := Lib.hid hf
  clear hf
  go_enter Tryd.func49, Tryd.ntmps49
  go_wp2
  go_loopg [5, 6] n (fun kx s5 s6 wr => ∃ (lo hi : Nat), s5 = .int .i64 lo ∧ s6 = .int .i64 hi ∧ lo ≤ hi ∧ hi ≤ n ∧ hi - lo ≤ kx ∧ Below w.heap.size w wr ∧ Hid (InvS n p lo hi))
  case atStart => exact ⟨0, n, rfl, rfl, Nat.zero_le _, Nat.le_refl _, by omega, Below.refl _ _, ⟨.inl rfl, .inl rfl⟩⟩
  case round =>
    obtain ⟨lo, hi, rfl, rfl, hlh, hin, hg, hX, I⟩ := hrel
    by_cases hlt : lo < hi
    · have h1 : (lo : Int) < (hi : Int) := by omega
      have h2 : (lo : Int) + (hi : Int) ≤ 9223372036854775807 := by omega
      have hc := fun X hX => HF.out X hX ((lo + hi) / 2) (by omega)
      rw [show (((lo + hi) / 2 : Nat) : Int) = ((lo : Int) + (hi : Int)) / 2 by omega] at hc
      cases hp : p ((lo + hi) / 2) <;> rw [hp] at hc
      · have HC := Lib.hid hc
        have HP := Lib.hid hp
        clear hp hc
        go_wp2_with (go_at_call 48; refine (HC.out _ hX).mono ?_; rintro e w' ⟨rfl, hb⟩)
        go_roundg (hi - ((lo + hi) / 2 + 1))
        case measure => omega
        case rel =>
          exact ⟨(lo + hi) / 2 + 1, hi, by rw [show ((lo : Int) + (hi : Int)) / 2 + 1 = (((lo + hi) / 2 + 1 : Nat) : Int) by omega], rfl, by omega, hin, Nat.le_refl _, hb, ⟨.inr HP.out, I.out.2⟩⟩
      · have HC := Lib.hid hc
        have HP := Lib.hid hp
        clear hp hc
        go_wp2_with (go_at_call 48; refine (HC.out _ hX).mono ?_; rintro e w' ⟨rfl, hb⟩)
        go_roundg ((lo + hi) / 2 - lo)
        case measure => omega
        case rel =>
          exact ⟨lo, (lo + hi) / 2, rfl, by rw [show ((lo : Int) + (hi : Int)) / 2 = (((lo + hi) / 2 : Nat) : Int) by omega], by omega, by omega, Nat.le_refl _, hb, ⟨I.out.1, .inr HP.out⟩⟩
    · obtain rfl : hi = lo := by omega
      go_wp2
      go_ret
      exact ⟨hi, rfl, hin, I.out, hX⟩

theorem yrOf_in (d : Int) : (-3652425000000000000 ≤ d ∧ d < 3652425000000000366) ↔ yr (yrOf d) = true := by
  obtain ⟨h1, h2⟩ := yrOf_spec d
  rw [yr_iff]
  have e1 : stI (-10000000000000000) = -3652425000000000000 := by decide
  have e2 : stI 10000000000000001 = 3652425000000000366 := by decide
  constructor
  · rintro ⟨h3, h4⟩
    constructor
    · rcases Int.lt_or_le (yrOf d) (-10000000000000000) with h | h
      · have := stI_le (show yrOf d + 1 ≤ -10000000000000000 by omega); omega
      · exact h
    · rcases Int.lt_or_le 10000000000000000 (yrOf d) with h | h
      · have := stI_le (show 10000000000000001 ≤ yrOf d by omega); omega
      · exact h
  · rintro ⟨h3, h4⟩
    have := stI_le h3
    have := stI_le (show yrOf d + 1 ≤ 10000000000000001 by omega)
    omega
/-- Where the search within 400 years ends. -/
theorem srch_end {day : Int} {r : Nat} (h : InvS 400 (fun i => decide (day < stI (400 * (day / 146097) + (i : Int) + 1))) r r) (_ : r ≤ 400) : 400 * (day / 146097) + (r : Int) = yrOf day := by
  obtain ⟨h1, h2⟩ := h
  have h0 : 0 ≤ day % 146097 := Int.emod_nonneg _ (by omega)
  have h3 : day % 146097 < 146097 := Int.emod_lt_of_pos _ (by omega)
  have h4 := Int.mul_ediv_add_emod day 146097
  have s0 := stI_400 0 (day / 146097)
  have s4 := stI_400 400 (day / 146097)
  have e0 : stI 0 = 0 := stI_zero
  have e4 : stI 400 = 146097 := by decide
  refine (yrOf_eq ?_ ?_).symm
  · rcases h1 with h1 | h1
    · subst h1
      rw [show 400 * (day / 146097) + ((0 : Nat) : Int) = 0 + 400 * (day / 146097) by omega]; omega
    · by_cases hz : r = 0
      · subst hz
        rw [show 400 * (day / 146097) + ((0 : Nat) : Int) = 0 + 400 * (day / 146097) by omega]; omega
      · rw [decide_eq_false_iff_not] at h1
        rw [show 400 * (day / 146097) + ((r - 1 : Nat) : Int) + 1 = 400 * (day / 146097) + (r : Int) by omega] at h1
        omega
  · rcases h2 with h2 | h2
    · subst h2
      have := stI_le (show 400 + 400 * (day / 146097) ≤ 400 * (day / 146097) + ((400 : Nat) : Int) + 1 by omega)
      omega
    · rw [decide_eq_true_eq] at h2
      exact h2

theorem of_in (day : Int) (w : World) (hs : StartY w) (h0 : -3652425000000000000 ≤ day) (h1 : day < 3652425000000000366) :
    Calls Tryd.prog 40 #[.int .i64 day] w fun e w' => e = .returned (.tuple #[.int .i64 (yrOf day), .int .i64 0]) ∧ Below w.heap.size w w' := by
  have hmf : ∀ (fn : Fn) (first cap : Array Value) (w : World), (Instr.makeFunc fn first cap).run Tryd.prog w = .ok (.func fn first cap) w := fun _ _ _ _ => rfl
  obtain ⟨F, hF⟩ : ∃ F, 400 * (day / 146097) = F := ⟨_, rfl⟩
  have hF2 : day / 146097 * 400 = F := by omega
  have hFb : -10000000000000800 ≤ F ∧ F ≤ 10000000000000800 := by omega
  obtain ⟨W, hW⟩ : ∃ W, W = w.alloc (.cells #[.int .i64 day] 2) := ⟨_, rfl⟩
  have hbW : Below w.heap.size w W := by rw [hW]; exact (Below.refl _ _).alloc (Nat.le_refl _) _
  have hsW := hs.below hbW
  have hc : W.cell? ⟨w.heap.size, 0, none⟩ = some (.int .i64 day) := by rw [hW]; rw [World.cell?_alloc_at _ _ _ _ rfl]; rfl
  have hlt : w.heap.size < W.heap.size := by rw [hW]; simp
  have e1 : stI (-10000000000000000) = -3652425000000000000 := by decide
  have e2 : stI 10000000000000001 = 3652425000000000366 := by decide
  have K1 : Hid (∀ X, Below W.heap.size W X → Calls Tryd.prog 46 #[.int .i64 (-10000000000000000)] X fun e w' => e = .returned (.int .i64 (-3652425000000000000)) ∧ Below W.heap.size W w') :=
    fun X hX => by rw [← e1]; exact (pst_any _ X (hsW.below hX) (by omega) (by omega)).mono fun _ _ ⟨h1, h2⟩ => ⟨h1, hX.trans (h2.mono hX.size)⟩
  have K2 : Hid (∀ X, Below W.heap.size W X → Calls Tryd.prog 46 #[.int .i64 10000000000000001] X fun e w' => e = .returned (.int .i64 3652425000000000366) ∧ Below W.heap.size W w') :=
    fun X hX => by rw [← e2]; exact (pst_any _ X (hsW.below hX) (by omega) (by omega)).mono fun _ _ ⟨h1, h2⟩ => ⟨h1, hX.trans (h2.mono hX.size)⟩
  have d1 : decide (day < -3652425000000000000) = false := decide_eq_false (by omega)
  have d2 : decide (3652425000000000366 ≤ day) = false := decide_eq_false (by omega)
  have HF := Lib.hid hF
  have HF2 := Lib.hid hF2
  clear e1 e2 hF hF2
  go_enter Tryd.func40, Tryd.ntmps40
  go_upto_region 1 with fail
  rw [← hW]
  clear hW
  go_cut [13] (fun s13 wx => s13 = .bool false ∧ Below W.heap.size W wx)
  case first =>
    go_region_held3 (fun w' => w'.cell? ⟨w.heap.size, 0, none⟩ = some (.int .i64 day)) (go_keep)
      (first
      | (go_at_call 46; ((with_reducible refine (K1.out _ (by go_grown)).mono ?_); rintro e x1 ⟨rfl, hX1⟩; have k0 := (hX1.cell (p := ⟨w.heap.size, 0, none⟩) hlt).trans hc))
      | (go_at_call 46; ((with_reducible refine (K2.out _ (by go_grown)).mono ?_); rintro e x2 ⟨rfl, hX2⟩; have k1 := (hX2.cell (p := ⟨w.heap.size, 0, none⟩) hlt).trans hc)))
    all_goals
      go_wp2_with fail
      go_meet
      exact ⟨rfl, by first | exact hX2 | exact hX1⟩
  case rest =>
    obtain ⟨rfl, hX⟩ := hcut
    clear K1 K2 d1 d2
    have c1 := (hX.cell (p := ⟨w.heap.size, 0, none⟩) hlt).trans hc
    have hlx : w.heap.size < wc.heap.size := by have := hX.size; omega
    go_upto_region 5 with (go_at_call 47; refine (floor_any _ _ _ (by omega) (by omega) (by omega)).mono ?_; rintro e w' ⟨rfl, rfl⟩)
    rw [HF2.out]
    obtain ⟨W2, hW2⟩ : ∃ W2, W2 = wc.alloc (.cells #[.int .i64 F] 2) := ⟨_, rfl⟩
    rw [← hW2]
    have hb2 : Below W.heap.size W W2 := by rw [hW2]; exact hX.alloc hX.size _
    have k1 := (hb2.cell (p := ⟨w.heap.size, 0, none⟩) hlt).trans hc
    have k2 : W2.cell? ⟨wc.heap.size, 0, none⟩ = some (.int .i64 F) := by rw [hW2]; rw [World.cell?_alloc_at _ _ _ _ rfl]; rfl
    have hl2 : wc.heap.size < W2.heap.size := by rw [hW2]; simp
    have hs2 := hsW.below hb2
    obtain ⟨Y, hY⟩ : ∃ Y, yrOf day = Y := ⟨_, rfl⟩
    obtain ⟨R, hR⟩ : ∃ R, Y - F = R := ⟨_, rfl⟩
    have hYb := yrOf_bd day (by omega)
    have KS : Hid (∀ X, Below W2.heap.size W2 X → Calls Tryd.prog 49 #[.int .i64 400, .func (.func 48) #[] #[.pointer (some ⟨w.heap.size, 0, none⟩), .pointer (some ⟨wc.heap.size, 0, none⟩)]] X fun e w' => e = .returned (.int .i64 R) ∧ Below W2.heap.size W2 w') := by
      intro X hX2
      refine (srch_any ⟨w.heap.size, 0, none⟩ ⟨wc.heap.size, 0, none⟩ 400 (fun i => decide (day < stI (F + (i : Int) + 1))) X (by omega) ?_).mono ?_
      · intro Z hZ i hi
        have hW2Z : Below W2.heap.size W2 Z := hX2.trans (hZ.mono hX2.size)
        have hz := hW2Z.size
        exact (clo_any ⟨w.heap.size, 0, none⟩ ⟨wc.heap.size, 0, none⟩ day F i _ _ Z (hs2.below hW2Z) (show w.heap.size < Z.heap.size by omega) (show wc.heap.size < Z.heap.size by omega) ((hW2Z.cell (p := ⟨w.heap.size, 0, none⟩) (show w.heap.size < W2.heap.size by omega)).trans k1) ((hW2Z.cell (p := ⟨wc.heap.size, 0, none⟩) hl2).trans k2) rfl rfl (by omega) (by omega) (by omega) (by omega)).mono fun _ _ ⟨g1, g2⟩ => ⟨g1, hZ.trans (g2.mono hZ.size)⟩
      · rintro e w' ⟨r, rfl, hr, hI, hb⟩
        refine ⟨ret_i ?_, hX2.trans (hb.mono hX2.size)⟩
        rw [← HF.out] at hI
        have := srch_end hI hr
        have := HF.out
        omega
    have wS : IntKind.i64.wrap (F + R) = Y := by rw [show F + R = Y by omega]; exact IntWalk.i64_in _ (by omega)
    have hfin : Below w.heap.size w W2 := hbW.trans (hb2.mono hbW.size)
    clear hR hYb hW2 hX hs2 hb2 c1 hFb HF HF2 hmf hlx
    go_region_held3 (fun w' => w'.cell? ⟨wc.heap.size, 0, none⟩ = some (.int .i64 F)) (go_keep)
      ((go_at_call 49; ((with_reducible refine (KS.out _ (by go_grown)).mono ?_); rintro e x1 ⟨rfl, hX1⟩; have k3 := (hX1.cell (p := ⟨wc.heap.size, 0, none⟩) hl2).trans k2)))
    all_goals
      go_wp2_with fail
      go_ret2
      exact ⟨ret_2 hY.symm rfl, hfin.trans (hX1.mono hfin.size)⟩
theorem of_lo (day : Int) (w : World) (hs : StartY w) (h : day < -3652425000000000000) :
    Calls Tryd.prog 40 #[.int .i64 day] w fun e w' => e = .returned (.tuple #[.int .i64 0, .int .i64 6]) ∧ Below w.heap.size w w' := by
  obtain ⟨W, hW⟩ : ∃ W, W = w.alloc (.cells #[.int .i64 day] 2) := ⟨_, rfl⟩
  have hbW : Below w.heap.size w W := by rw [hW]; exact (Below.refl _ _).alloc (Nat.le_refl _) _
  have hsW := hs.below hbW
  have hc : W.cell? ⟨w.heap.size, 0, none⟩ = some (.int .i64 day) := by rw [hW]; rw [World.cell?_alloc_at _ _ _ _ rfl]; rfl
  have hlt : w.heap.size < W.heap.size := by rw [hW]; simp
  have e1 : stI (-10000000000000000) = -3652425000000000000 := by decide
  have K1 : Hid (∀ X, Below W.heap.size W X → Calls Tryd.prog 46 #[.int .i64 (-10000000000000000)] X fun e w' => e = .returned (.int .i64 (-3652425000000000000)) ∧ Below W.heap.size W w') :=
    fun X hX => by rw [← e1]; exact (pst_any _ X (hsW.below hX) (by omega) (by omega)).mono fun _ _ ⟨h1, h2⟩ => ⟨h1, hX.trans (h2.mono hX.size)⟩
  have d1 : decide (day < -3652425000000000000) = true := decide_eq_true (by omega)
  clear e1
  go_enter Tryd.func40, Tryd.ntmps40
  go_upto_region 1 with fail
  rw [← hW]
  clear hW
  go_cut [13] (fun s13 wx => s13 = .bool true ∧ Below W.heap.size W wx)
  case first =>
    go_region_with
      ((go_at_call 46; ((with_reducible refine (K1.out _ (by go_grown)).mono ?_); rintro e x1 ⟨rfl, hX1⟩; have k0 := (hX1.cell (p := ⟨w.heap.size, 0, none⟩) hlt).trans hc)))
    all_goals
      go_wp2_with fail
      go_meet
      exact ⟨rfl, hX1⟩
  case rest =>
    obtain ⟨rfl, hX⟩ := hcut
    go_wp2_with fail
    go_ret2
    exact ⟨rfl, hbW.trans (hX.mono hbW.size)⟩

theorem of_hi (day : Int) (w : World) (hs : StartY w) (h : 3652425000000000366 ≤ day) :
    Calls Tryd.prog 40 #[.int .i64 day] w fun e w' => e = .returned (.tuple #[.int .i64 0, .int .i64 6]) ∧ Below w.heap.size w w' := by
  obtain ⟨W, hW⟩ : ∃ W, W = w.alloc (.cells #[.int .i64 day] 2) := ⟨_, rfl⟩
  have hbW : Below w.heap.size w W := by rw [hW]; exact (Below.refl _ _).alloc (Nat.le_refl _) _
  have hsW := hs.below hbW
  have hc : W.cell? ⟨w.heap.size, 0, none⟩ = some (.int .i64 day) := by rw [hW]; rw [World.cell?_alloc_at _ _ _ _ rfl]; rfl
  have hlt : w.heap.size < W.heap.size := by rw [hW]; simp
  have e1 : stI (-10000000000000000) = -3652425000000000000 := by decide
  have K1 : Hid (∀ X, Below W.heap.size W X → Calls Tryd.prog 46 #[.int .i64 (-10000000000000000)] X fun e w' => e = .returned (.int .i64 (-3652425000000000000)) ∧ Below W.heap.size W w') :=
    fun X hX => by rw [← e1]; exact (pst_any _ X (hsW.below hX) (by omega) (by omega)).mono fun _ _ ⟨h1, h2⟩ => ⟨h1, hX.trans (h2.mono hX.size)⟩
  have e2 : stI 10000000000000001 = 3652425000000000366 := by decide
  have K2 : Hid (∀ X, Below W.heap.size W X → Calls Tryd.prog 46 #[.int .i64 10000000000000001] X fun e w' => e = .returned (.int .i64 3652425000000000366) ∧ Below W.heap.size W w') :=
    fun X hX => by rw [← e2]; exact (pst_any _ X (hsW.below hX) (by omega) (by omega)).mono fun _ _ ⟨h1, h2⟩ => ⟨h1, hX.trans (h2.mono hX.size)⟩
  clear e2
  have d1 : decide (day < -3652425000000000000) = false := decide_eq_false (by omega)
  have d2 : decide (3652425000000000366 ≤ day) = true := decide_eq_true (by omega)
  have h0 : -3652425000000000000 ≤ day := by omega
  have hh := Lib.hid h
  clear e1 h
  go_enter Tryd.func40, Tryd.ntmps40
  go_upto_region 1 with fail
  rw [← hW]
  clear hW
  go_cut [13] (fun s13 wx => s13 = .bool true ∧ Below W.heap.size W wx)
  case first =>
    go_region_held3 (fun w' => w'.cell? ⟨w.heap.size, 0, none⟩ = some (.int .i64 day)) (go_keep)
      (first
      | (go_at_call 46; ((with_reducible refine (K1.out _ (by go_grown)).mono ?_); rintro e x1 ⟨rfl, hX1⟩; have k0 := (hX1.cell (p := ⟨w.heap.size, 0, none⟩) hlt).trans hc))
      | (go_at_call 46; ((with_reducible refine (K2.out _ (by go_grown)).mono ?_); rintro e x2 ⟨rfl, hX2⟩; have k1 := (hX2.cell (p := ⟨w.heap.size, 0, none⟩) hlt).trans hc)))
    all_goals
      go_wp2_with fail
      go_meet
      exact ⟨rfl, by first | exact hX2 | exact hX1⟩
  case rest =>
    obtain ⟨rfl, hX⟩ := hcut
    go_wp2_with fail
    go_ret2
    exact ⟨rfl, hbW.trans (hX.mono hbW.size)⟩

theorem qof_any (day : Int) (w : World) (hs : StartY w) :
    Calls Tryd.prog 40 #[.int .i64 day] w fun e w' => e = .returned (.tuple #[.int .i64 (yV (yrOf day) (yrOf day)), .int .i64 (yE (yrOf day))]) ∧ Below w.heap.size w w' := by
  cases h : yr (yrOf day)
  · rw [yE_out h, yV_out h]
    have hn : ¬ (-3652425000000000000 ≤ day ∧ day < 3652425000000000366) := fun h' => by rw [(yrOf_in day).1 h'] at h; cases h
    rcases Int.lt_or_le day (-3652425000000000000) with h1 | h1
    · exact of_lo day w hs h1
    · exact of_hi day w hs (by omega)
  · rw [yE_in h, yV_in h]
    obtain ⟨h1, h2⟩ := (yrOf_in day).2 h
    exact of_in day w hs h1 h2
end Go.Proofs.YtcabcmlnmpfhkaaDoor
