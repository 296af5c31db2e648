/- The functions of package months, each with what it returns of whatever numbers. -/
import Derived.Test.YtcabcmlnmpfhkaaDoorMonC
namespace Go.Proofs.YtcabcmlnmpfhkaaDoor
open Go.RowKit

def StartYM (w : World) : Prop := StartY w ∧ StartM w
theorem StartYM.below {w w' : World} (h : StartYM w) (hb : Below w.heap.size w w') : StartYM w' := ⟨h.1.below hb, h.2.below hb⟩

/-- The first and the last day of a month, by its number. -/
def mfst (y m : Int) : Int := mst y (m - 1).toNat
def mlst (y m : Int) : Int := mst y m.toNat - 1
/-- The error of Add, the error of Between. -/
def aE (y m k : Int) : Int := if mE y m = 0 then (if yr (adY y m k) = true then 0 else 6) else mE y m
def aV (y m k v : Int) : Int := if mE y m = 0 ∧ yr (adY y m k) = true then v else 0
def bE (y m z n : Int) : Int := if mE y m = 0 then mE z n else mE y m
def bV (y m z n : Int) : Int := if mE y m = 0 ∧ mE z n = 0 then 12 * (z - y) + (n - m) else 0
def oV (d v : Int) : Int := if yr (yrOf d) = true then v else 0
def I64 (n : Int) : Prop := -9223372036854775808 ≤ n ∧ n ≤ 9223372036854775807

theorem mcheck_any (y m : Int) (w : World) (_hs : StartYM w) (hy : I64 y) (hm : I64 m) : Calls Tryd.prog 32 #[.int .i64 y, .int .i64 m] w fun e w' => e = .returned (.int .i64 (mE y m)) ∧ Below w.heap.size w w' := by
  have HC := Lib.hid (qcheck_any y)
  obtain ⟨y0, y1⟩ := hy
  obtain ⟨m0, m1⟩ := hm
  clear _hs
  unfold mE
  cases hyr : yr y
  · rw [yE_out hyr] at HC
    simp only [Bool.false_eq_true, if_false]
    clear hyr
    go_enter Tryd.func32, Tryd.ntmps32
    go_wp2_with (go_at_call 36; refine (HC.out _).mono ?_; rintro e w' ⟨rfl, rfl⟩)
    go_ret
    exact ⟨rfl, Below.refl _ _⟩
  · rw [yE_in hyr] at HC
    simp only [if_true]
    clear hyr
    cases hmo : mo m
    · simp only [Bool.false_eq_true, if_false]
      have hn : ¬ (1 ≤ m ∧ m ≤ 12) := fun h => by rw [(mo_iff m).2 h] at hmo; cases hmo
      clear hmo
      rcases (show m < 1 ∨ (1 ≤ m ∧ 12 < m) by omega) with h | h
      · clear hn
        go_enter Tryd.func32, Tryd.ntmps32
        go_wp2_with (go_at_call 36; refine (HC.out _).mono ?_; rintro e w' ⟨rfl, rfl⟩)
        go_ret
        exact ⟨rfl, Below.refl _ _⟩
      · obtain ⟨g, h⟩ := h
        clear hn
        go_enter Tryd.func32, Tryd.ntmps32
        go_wp2_with (go_at_call 36; refine (HC.out _).mono ?_; rintro e w' ⟨rfl, rfl⟩)
        go_ret
        exact ⟨rfl, Below.refl _ _⟩
    · simp only [if_true]
      obtain ⟨g, h⟩ := (mo_iff m).1 hmo
      clear hmo
      go_enter Tryd.func32, Tryd.ntmps32
      go_wp2_with (go_at_call 36; refine (HC.out _).mono ?_; rintro e w' ⟨rfl, rfl⟩)
      go_ret
      exact ⟨rfl, Below.refl _ _⟩
theorem mE_cases (y m : Int) : (mE y m = 0 ∧ yr y = true ∧ mo m = true) ∨ (mE y m = 6 ∨ mE y m = 7) := by
  unfold mE
  cases yr y <;> cases mo m <;> simp
theorem mstart_any (y m : Int) (w : World) (hs : StartYM w) (hy : I64 y) (hm : I64 m) : Calls Tryd.prog 23 #[.int .i64 y, .int .i64 m] w fun e w' => e = .returned (.tuple #[.int .i64 (mV y m (mfst y m)), .int .i64 (mE y m)]) ∧ Below w.heap.size w w' := by
  have HC := Lib.hid (mcheck_any y m w hs hy hm)
  rcases mE_cases y m with ⟨h0, h1, h2⟩ | h0
  · obtain ⟨g1, g2⟩ := (mo_iff m).1 h2
    have HL := Lib.hid (fun X (hX : Below w.heap.size w X) => pmst_any y (m - 1).toNat m X (hs.below hX).1 (hs.below hX).2 h1 (by omega) (by omega))
    rw [h0] at HC
    rw [h0, mV_in h1 h2]
    unfold mfst
    generalize mst y (m - 1).toNat = L at *
    clear h0 h1 h2 hs hy hm
    go_enter Tryd.func23, Tryd.ntmps23
    go_wp2_with (first
      | (go_at_call 32; refine HC.out.mono ?_; rintro e w1 ⟨rfl, hb⟩)
      | (go_at_call 37; refine (HL.out _ hb).mono ?_; rintro e w2 ⟨rfl, hb2⟩))
    go_ret2
    exact ⟨rfl, hb.trans (hb2.mono hb.size)⟩
  · rw [mV_out (by omega)]
    clear hs hy hm
    rcases h0 with h0 | h0
    all_goals
      rw [h0] at HC ⊢
      clear h0
      go_enter Tryd.func23, Tryd.ntmps23
      go_wp2_with (go_at_call 32; refine HC.out.mono ?_; rintro e w1 ⟨rfl, hb⟩)
      go_ret2
      exact ⟨rfl, hb⟩
theorem mlst_eq (y m : Int) (h : 1 ≤ m) : mlst y m = mst y (m - 1).toNat + mlen y m - 1 := by
  unfold mlst
  obtain ⟨n, hn⟩ : ∃ n, (m - 1).toNat = n := ⟨_, rfl⟩
  rw [show m.toNat = n + 1 by omega, hn, show m = (n : Int) + 1 by omega]
  rfl
theorem mend_any (y m : Int) (w : World) (hs : StartYM w) (hy : I64 y) (hm : I64 m) : Calls Tryd.prog 24 #[.int .i64 y, .int .i64 m] w fun e w' => e = .returned (.tuple #[.int .i64 (mV y m (mlst y m)), .int .i64 (mE y m)]) ∧ Below w.heap.size w w' := by
  have HC := Lib.hid (mcheck_any y m w hs hy hm)
  rcases mE_cases y m with ⟨h0, h1, h2⟩ | h0
  · obtain ⟨g1, g2⟩ := (mo_iff m).1 h2
    have HS := Lib.hid (fun X (hX : Below w.heap.size w X) => pmst_any y (m - 1).toNat m X (hs.below hX).1 (hs.below hX).2 h1 (by omega) (by omega))
    have HL := Lib.hid (fun X (hX : Below w.heap.size w X) => plen_any y m X (hs.below hX).1 (hs.below hX).2 h1 g1 g2)
    have b1 := mst_bd y (m - 1).toNat (by omega) (by have := (yr_iff y).1 h1; omega)
    have b2 := mlen_bd y m
    rw [h0] at HC
    rw [h0, mV_in h1 h2, mlst_eq y m g1]
    generalize mst y (m - 1).toNat = S at *
    generalize mlen y m = L at *
    obtain ⟨b11, b12⟩ := b1
    clear h0 h1 h2 hs hy hm
    go_enter Tryd.func24, Tryd.ntmps24
    go_wp2_with (first
      | (go_at_call 32; refine HC.out.mono ?_; rintro e w1 ⟨rfl, hb⟩)
      | (go_at_call 37; refine (HS.out _ hb).mono ?_; rintro e w2 ⟨rfl, hb2⟩)
      | (go_at_call 38; refine (HL.out _ (hb.trans (hb2.mono hb.size))).mono ?_; rintro e w3 ⟨rfl, hb3⟩))
    go_ret2
    exact ⟨rfl, (hb.trans (hb2.mono hb.size)).trans (hb3.mono (hb.trans (hb2.mono hb.size)).size)⟩
  · rw [mV_out (by omega)]
    clear hs hy hm
    rcases h0 with h0 | h0
    all_goals
      rw [h0] at HC ⊢
      clear h0
      go_enter Tryd.func24, Tryd.ntmps24
      go_wp2_with (go_at_call 32; refine HC.out.mono ?_; rintro e w1 ⟨rfl, hb⟩)
      go_ret2
      exact ⟨rfl, hb⟩

theorem mE_err {y m : Int} (h : ¬ mE y m = 0) : mE y m = 6 ∨ mE y m = 7 := by rcases mE_cases y m with ⟨h0, _⟩ | h0; exact absurd h0 h; exact h0
theorem ix_bd (y m : Int) (hy : yr y = true) (hm : mo m = true) : -120000000000000000 ≤ ixI y m 0 ∧ ixI y m 0 ≤ 120000000000000011 := by
  have := (yr_iff y).1 hy
  have := (mo_iff m).1 hm
  unfold ixI; omega
theorem ix_add (y m k : Int) : ixI y m 0 + k = ixI y m k := by unfold ixI; omega
theorem aE_far (y m k : Int) (hE : mE y m = 0) (h : ixI y m k < -9223372036854775808 ∨ 9223372036854775807 < ixI y m k) : aE y m k = 6 ∧ yr (adY y m k) = false := by
  have hn : yr (adY y m k) = false := by
    rw [yr_not]
    unfold adY; omega
  exact ⟨by unfold aE; rw [if_pos hE, hn]; rfl, hn⟩
theorem fit_sum (y m k : Int) (h : -9223372036854775808 ≤ ixI y m k ∧ ixI y m k ≤ 9223372036854775807) : fitV (ixI y m 0 + k) = ixI y m k ∧ fitE (ixI y m 0 + k) = 0 := by
  rw [ix_add]; exact ⟨fitV_in h.1 h.2, fitE_in h.1 h.2⟩
theorem madd_any (y m : Int) (w : World) (hs : StartYM w) (hy : I64 y) (hm : I64 m) (k : Int) (hk : I64 k) : Calls Tryd.prog 22 #[.int .i64 y, .int .i64 m, .int .i64 k] w fun e w' => e = .returned (.tuple #[.int .i64 (aV y m k (adY y m k)), .int .i64 (aV y m k (adM y m k)), .int .i64 (aE y m k)]) ∧ Below w.heap.size w w' := by
  have HC := Lib.hid (mcheck_any y m w hs hy hm)
  rcases mE_cases y m with ⟨h0, h1, h2⟩ | h0
  · obtain ⟨g1, g2⟩ := (mo_iff m).1 h2
    obtain ⟨g3, g4⟩ := (yr_iff y).1 h1
    have HI := Lib.hid (fun X => pix_any y m X (by omega) (by omega) g1 g2)
    have hib := ix_bd y m h1 h2
    have HA := Lib.hid (fun X => add_any (ixI y m 0) k X (by omega) (by omega) hk.1 hk.2)
    have HY := Lib.hid (qcheck_any (adY y m k))
    rw [h0] at HC
    by_cases hfit : -9223372036854775808 ≤ ixI y m k ∧ ixI y m k ≤ 9223372036854775807
    · obtain ⟨e1, e2⟩ := fit_sum y m k hfit
      rw [e1, e2] at HA
      have HM := Lib.hid (fun X => pmon_any (ixI y m k) X hfit.1 hfit.2)
      have hq : ixI y m k / 12 = adY y m k := rfl
      have hr : ixI y m k % 12 + 1 = adM y m k := rfl
      rw [hq, hr] at HM
      cases hyr : yr (adY y m k)
      · have hE : aE y m k = 6 := by unfold aE; rw [if_pos h0, hyr]; rfl
        have hV : ∀ v, aV y m k v = 0 := fun v => if_neg (by rw [hyr]; simp)
        rw [hE, hV, hV]
        rw [yE_out hyr] at HY
        obtain ⟨k0, k1⟩ := hk
        generalize adY y m k = z at *
        generalize adM y m k = n at *
        generalize ixI y m k = s at *
        generalize ixI y m 0 = x at *
        clear hE hV hyr e1 e2 hq hr h0 h1 h2 hs hy hm
        go_enter Tryd.func22, Tryd.ntmps22
        go_wp2_with (first
          | (go_at_call 32; refine HC.out.mono ?_; rintro e w1 ⟨rfl, hb⟩)
          | (go_at_call 34; refine (HI.out _).mono ?_; rintro e w2 ⟨rfl, rfl⟩)
          | (go_at_call 33; refine (HA.out _).mono ?_; rintro e w3 ⟨rfl, hb3⟩)
          | (go_at_call 35; refine (HM.out _).mono ?_; rintro e w4 ⟨rfl, rfl⟩)
          | (go_at_call 36; refine (HY.out _).mono ?_; rintro e w5 ⟨rfl, rfl⟩))
        go_ret3
        exact ⟨rfl, hb.trans (hb3.mono hb.size)⟩
      · have hE : aE y m k = 0 := by unfold aE; rw [if_pos h0, hyr]; rfl
        have hV : ∀ v, aV y m k v = v := fun v => if_pos ⟨h0, hyr⟩
        rw [hE, hV, hV]
        rw [yE_in hyr] at HY
        obtain ⟨k0, k1⟩ := hk
        generalize adY y m k = z at *
        generalize adM y m k = n at *
        generalize ixI y m k = s at *
        generalize ixI y m 0 = x at *
        clear hE hV hyr e1 e2 hq hr h0 h1 h2 hs hy hm
        go_enter Tryd.func22, Tryd.ntmps22
        go_wp2_with (first
          | (go_at_call 32; refine HC.out.mono ?_; rintro e w1 ⟨rfl, hb⟩)
          | (go_at_call 34; refine (HI.out _).mono ?_; rintro e w2 ⟨rfl, rfl⟩)
          | (go_at_call 33; refine (HA.out _).mono ?_; rintro e w3 ⟨rfl, hb3⟩)
          | (go_at_call 35; refine (HM.out _).mono ?_; rintro e w4 ⟨rfl, rfl⟩)
          | (go_at_call 36; refine (HY.out _).mono ?_; rintro e w5 ⟨rfl, rfl⟩))
        go_ret3
        exact ⟨rfl, hb.trans (hb3.mono hb.size)⟩
    · obtain ⟨hE, hyr⟩ := aE_far y m k h0 (by omega)
      have hV : ∀ v, aV y m k v = 0 := fun v => if_neg (by rw [hyr]; simp)
      have e1 : fitV (ixI y m 0 + k) = 0 := fitV_out (by rw [ix_add]; omega)
      have e2 : fitE (ixI y m 0 + k) = 15 := fitE_out (by rw [ix_add]; omega)
      rw [e1, e2] at HA
      rw [hE, hV, hV]
      obtain ⟨k0, k1⟩ := hk
      generalize ixI y m 0 = x at *
      clear hE hV hyr e1 e2 h0 h1 h2 hs hy hm hfit HY
      go_enter Tryd.func22, Tryd.ntmps22
      go_wp2_with (first
        | (go_at_call 32; refine HC.out.mono ?_; rintro e w1 ⟨rfl, hb⟩)
        | (go_at_call 34; refine (HI.out _).mono ?_; rintro e w2 ⟨rfl, rfl⟩)
        | (go_at_call 33; refine (HA.out _).mono ?_; rintro e w3 ⟨rfl, hb3⟩))
      go_ret3
      exact ⟨rfl, hb.trans (hb3.mono hb.size)⟩
  · have hne : ¬ mE y m = 0 := by omega
    have hE : aE y m k = mE y m := if_neg hne
    have hV : ∀ v, aV y m k v = 0 := fun v => if_neg fun h => hne h.1
    rw [hE, hV, hV]
    clear hs hy hm hk hE hV hne
    rcases h0 with h0 | h0
    all_goals
      rw [h0] at HC ⊢
      clear h0
      go_enter Tryd.func22, Tryd.ntmps22
      go_wp2_with (go_at_call 32; refine HC.out.mono ?_; rintro e w1 ⟨rfl, hb⟩)
      go_ret3
      exact ⟨rfl, hb⟩
theorem ret_m {k k' : IntKind} {a b c z : Int} (h : b = c) : Ending.returned (.tuple #[.int k a, .int k b, .int k' z]) = .returned (.tuple #[.int k a, .int k c, .int k' z]) := by rw [h]
theorem mof_in (d : Int) (w : World) (hs : StartYM w) (hy : yr (yrOf d) = true) (hd : I64 d) :
    Calls Tryd.prog 28 #[.int .i64 d] w fun e w' => e = .returned (.tuple #[.int .i64 (yrOf d), .int .i64 (moOf d : Nat), .int .i64 0]) ∧ Below w.heap.size w w' := by
  have HO := Lib.hid (qof_any d w hs.1)
  rw [yV_in hy, yE_in hy] at HO
  have HS : Hid (∀ k : Nat, k < 12 → ∀ X, Below w.heap.size w X → Calls Tryd.prog 37 #[.int .i64 (yrOf d), .int .i64 ((k : Int) + 1)] X fun e w' => e = .returned (.int .i64 (mst (yrOf d) k)) ∧ Below w.heap.size w w') :=
    fun k hk X hX => (pmst_any _ k _ X (hs.below hX).1 (hs.below hX).2 hy hk rfl).mono fun _ _ ⟨h1, h2⟩ => ⟨h1, hX.trans (h2.mono hX.size)⟩
  obtain ⟨l1, l2⟩ := yrOf_spec d
  have HE : Hid (∀ n : Nat, 1 ≤ n → n ≤ 12 → mst (yrOf d) (n - 1) ≤ d → d < mst (yrOf d) n → moOf d = n) := fun n h1 h2 h3 h4 => (mo_eq h1 h2 h3 h4).2
  have HT : Hid (mst (yrOf d) 12 = stI (yrOf d + 1)) := mst_12 _
  have HZ : Hid (mst (yrOf d) 0 = stI (yrOf d)) := (rfl : mst (yrOf d) 0 = stI (yrOf d))
  obtain ⟨d0, d1⟩ := hd
  generalize yrOf d = y at *
  clear hy hs
  go_enter Tryd.func28, Tryd.ntmps28
  go_wp2_with (go_at_call 40; refine HO.out.mono ?_; rintro e w' ⟨rfl, hb⟩)
  go_loopw [3, 5, 14] (fun _ _ k wr => ∃ i : Nat, i ≤ 12 ∧ k = .int .i64 i ∧ d < mst y (12 - i) ∧ Below w.heap.size w wr) (fun _ _ k _ => 12 - (intOf k).toNat)
  case atStart => exact ⟨0, by omega, rfl, by rw [HT.out]; exact l2, by assumption⟩
  case round =>
    obtain ⟨i, hi, rfl, hlt, hX⟩ := hrel
    by_cases h12 : i < 12
    · have HC := Lib.hid (HS.out (11 - i) (by omega) _ hX)
      rw [show (((11 - i : Nat) : Int) + 1) = 12 - (i : Int) by omega] at HC
      by_cases hle : mst y (11 - i) ≤ d
      · have HM := Lib.hid (HE.out (12 - i) (by omega) (by omega) (by rw [show 12 - i - 1 = 11 - i by omega]; exact hle) hlt)
        generalize mst y (11 - i) = S at *
        clear hlt
        go_wp2_with (go_at_call 37; refine HC.out.mono ?_; rintro e w' ⟨rfl, hb⟩)
        go_ret3
        exact ⟨ret_m (by rw [HM.out]; omega), hb⟩
      · have HL : Hid (mst y (11 - i) = mst y (12 - (i + 1))) := by show _ = _; rw [show 12 - (i + 1) = 11 - i by omega]
        have HN : Hid (d < mst y (12 - (i + 1))) := by show _ < _; rw [← HL.out]; omega
        generalize mst y (11 - i) = S at *
        clear hlt
        go_wp2_with (go_at_call 37; refine HC.out.mono ?_; rintro e w' ⟨rfl, hb⟩)
        go_roundw
        case rel => exact ⟨i + 1, by omega, by go_num, HN.out, hb⟩
        case measure => simp [intOf]; omega
    · obtain rfl : i = 12 := by omega
      rw [show 12 - 12 = 0 by omega, HZ.out] at hlt
      omega
theorem mof_any (d : Int) (w : World) (hs : StartYM w) (hd : I64 d) : Calls Tryd.prog 28 #[.int .i64 d] w fun e w' => e = .returned (.tuple #[.int .i64 (oV d (yrOf d)), .int .i64 (oV d (moOf d : Nat)), .int .i64 (yE (yrOf d))]) ∧ Below w.heap.size w w' := by
  cases h : yr (yrOf d)
  · have HO := Lib.hid (qof_any d w hs.1)
    have hV : ∀ v, oV d v = 0 := fun v => if_neg (by rw [h]; simp)
    rw [yV_out h, yE_out h] at HO
    rw [hV, hV, yE_out h]
    clear h hV hs hd
    go_enter Tryd.func28, Tryd.ntmps28
    go_wp2_with (go_at_call 40; refine HO.out.mono ?_; rintro e w' ⟨rfl, hb⟩)
    go_ret3
    exact ⟨rfl, hb⟩
  · have hV : ∀ v, oV d v = v := fun v => if_pos h
    rw [hV, hV, yE_in h]
    exact mof_in d w hs h hd
end Go.Proofs.YtcabcmlnmpfhkaaDoor
