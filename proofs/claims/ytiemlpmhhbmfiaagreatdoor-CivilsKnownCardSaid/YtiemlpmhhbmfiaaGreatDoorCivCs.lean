/- Package civils, the functions that reckon: Check, Day, Of, Weekday, Ordinal, FromOrdinal, Compare. -/
import Derived.Test.YtiemlpmhhbmfiaaGreatDoorMons
import Derived.Test.YtiemlpmhhbmfiaaGreatDoorCivB
import Derived.Deep.Cut
import Derived.Deep.CutRange
import Derived.Deep.DeepCutAuto
import Derived.Deep.CutBlock
import Derived.BigQuiet
import Derived.Test.YtiemlpmhhbmfiaaGreatDoorCivTx
import Derived.Deep.RegionHeld3
import Derived.Deep.RegionWith
import Derived.Test.YtiemlpmhhbmfiaaGreatDoorIText
namespace Go.Proofs.YtiemlpmhhbmfiaaGreatDoor
open Go.RowKit

theorem pcheck_any (y m d : Int) (w : World) (hs : StartYM w) (hy : I64 y) (hm : I64 m) (_hd : I64 d) :
    Calls Tryz.prog 13 #[.agg #[.int .i64 y, .int .i64 m, .int .i64 d]] w fun e w' => e = .returned (.int .i64 (cE y m d)) ∧ Below w.heap.size w w' := by
  have HL := Lib.hid (fun X (hX : Below w.heap.size w X) => mlen_any y m X (hs.below hX) hy hm)
  have hT := tri_new w y m d 23 _ rfl
  have HB : Hid (∀ B X, B = w.heap.size → Below (w.alloc (.cells #[.int .i64 y, .int .i64 m, .int .i64 d] 23)).heap.size (w.alloc (.cells #[.int .i64 y, .int .i64 m, .int .i64 d] 23)) X → Below B w X ∧ B < X.heap.size ∧ Three w.heap.size y m d X) := fun B X hB hX => by
    subst hB
    exact ⟨hT.2.2.trans (hX.mono (Nat.le_of_lt hT.2.1)), Nat.lt_of_lt_of_le hT.2.1 hX.size, hT.1.below hT.2.1 hX⟩
  obtain ⟨⟨f0, f1, f2⟩, g1, g2⟩ := hT
  have HG : Hid (Below w.heap.size w (w.alloc (.cells #[.int .i64 y, .int .i64 m, .int .i64 d] 23))) := g2
  clear g2
  clear hs hy hm
  unfold cE
  rcases mE_cases y m with ⟨h0, h1, h2⟩ | h0
  · have hv : mV y m (mlen y m) = mlen y m := mV_in h1 h2 _
    rw [h0, hv] at HL
    rw [if_pos h0]
    clear h0 h1 h2 hv
    generalize mlen y m = L at *
    by_cases hd1 : d < 1
    · rw [if_neg (by omega)]
      go_enter Tryz.func13, Tryz.ntmps13
      go_wp2_with (go_at_call 38; refine (HL.out _ HG.out).mono ?_; rintro e w1 ⟨rfl, hb⟩; obtain ⟨hB, hz, f0, f1, f2⟩ := HB.out _ _ rfl hb)
      go_ret
      exact ⟨rfl, hB⟩
    · by_cases hd2 : L < d
      · rw [if_neg (by omega)]
        go_enter Tryz.func13, Tryz.ntmps13
        go_wp2_with (go_at_call 38; refine (HL.out _ HG.out).mono ?_; rintro e w1 ⟨rfl, hb⟩; obtain ⟨hB, hz, f0, f1, f2⟩ := HB.out _ _ rfl hb)
        go_ret
        exact ⟨rfl, hB⟩
      · rw [if_pos (by omega)]
        go_enter Tryz.func13, Tryz.ntmps13
        go_wp2_with (go_at_call 38; refine (HL.out _ HG.out).mono ?_; rintro e w1 ⟨rfl, hb⟩; obtain ⟨hB, hz, f0, f1, f2⟩ := HB.out _ _ rfl hb)
        go_ret
        exact ⟨rfl, hB⟩
  · rw [mV_out (by omega)] at HL
    rw [if_neg (by omega)]
    rcases h0 with h0 | h0
    all_goals
      rw [h0] at HL ⊢
      clear h0
      go_enter Tryz.func13, Tryz.ntmps13
      go_wp2_with (go_at_call 38; refine (HL.out _ HG.out).mono ?_; rintro e w1 ⟨rfl, hb⟩; obtain ⟨hB, hz, f0, f1, f2⟩ := HB.out _ _ rfl hb)
      go_ret
      exact ⟨rfl, hB⟩
end Go.Proofs.YtiemlpmhhbmfiaaGreatDoor
/- Package civils, the functions that reckon: Day, Of, Weekday, Ordinal, FromOrdinal. -/
namespace Go.Proofs.YtiemlpmhhbmfiaaGreatDoor
open Go.RowKit

/-- What a function that asks for a right civil day returns: v, or 0. -/
def cV (y m d v : Int) : Int := if cE y m d = 0 then v else 0
theorem cV_ok {y m d : Int} (h : cE y m d = 0) (v : Int) : cV y m d v = v := if_pos h
theorem cV_bad {y m d : Int} (h : ¬ cE y m d = 0) (v : Int) : cV y m d v = 0 := if_neg h
/-- What Of returns: v, or 0; and its error. -/
def oE (day : Int) : Int := if yr (yrOf day) = true then 0 else 6
def cDy (day : Int) : Int := day - mst (yrOf day) (moOf day - 1) + 1
/-- The error of FromOrdinal, and what it returns. -/
def fE (y n : Int) : Int := if yr y = true then (if 1 ≤ n ∧ n ≤ lenI y then 0 else 4) else 6
def fV (y n v : Int) : Int := if fE y n = 0 then v else 0
def cTx (y m d : Int) : ByteArray := if cE y m d = 0 then civS y m d else ⟨#[]⟩

theorem cE_cases (y m d : Int) : cE y m d = 0 ∨ cE y m d = 6 ∨ cE y m d = 7 ∨ cE y m d = 8 := by
  unfold cE
  rcases mE_cases y m with ⟨h0, _⟩ | h0 | h0
  · rw [if_pos h0]; split <;> simp
  · rw [if_neg (by omega)]; simp [h0]
  · rw [if_neg (by omega)]; simp [h0]

theorem pday_any (y m d : Int) (w : World) (hs : StartYM w) (hy : I64 y) (hm : I64 m) (hd : I64 d) :
    Calls Tryz.prog 11 #[.agg #[.int .i64 y, .int .i64 m, .int .i64 d]] w fun e w' => e = .returned (.tuple #[.int .i64 (cV y m d (cday y m d)), .int .i64 (cE y m d)]) ∧ Below w.heap.size w w' := by
  have HC := Lib.hid (fun X (hX : Below w.heap.size w X) => pcheck_any y m d X (hs.below hX) hy hm hd)
  have HL := Lib.hid (fun X (hX : Below w.heap.size w X) => mstart_any y m X (hs.below hX) hy hm)
  have hT := tri_new w y m d 23 _ rfl
  have HB : Hid (∀ B X, B = w.heap.size → Below (w.alloc (.cells #[.int .i64 y, .int .i64 m, .int .i64 d] 23)).heap.size (w.alloc (.cells #[.int .i64 y, .int .i64 m, .int .i64 d] 23)) X → Below B w X ∧ B < X.heap.size ∧ Three w.heap.size y m d X) := fun B X hB hX => by
    subst hB
    exact ⟨hT.2.2.trans (hX.mono (Nat.le_of_lt hT.2.1)), Nat.lt_of_lt_of_le hT.2.1 hX.size, hT.1.below hT.2.1 hX⟩
  obtain ⟨⟨f0, f1, f2⟩, g1, g2⟩ := hT
  have HG : Hid (Below w.heap.size w (w.alloc (.cells #[.int .i64 y, .int .i64 m, .int .i64 d] 23))) := g2
  clear g2
  by_cases hE : cE y m d = 0
  · obtain ⟨h1, h2, h3⟩ := cE_zero.1 hE
    obtain ⟨k1, k2⟩ := mE_zero.1 h1
    have hml := mlen_bd y m
    have b1 := mst_bd y (m - 1).toNat (by have := (mo_iff m).1 k2; omega) (by have := (yr_iff y).1 k1; omega)
    rw [hE] at HC
    rw [h1, mV_in k1 k2, show mfst y m = mst y (m - 1).toNat from rfl] at HL
    have HR : Hid (cV y m d (cday y m d) = mst y (m - 1).toNat + d - 1) := by show _ = _; rw [cV_ok hE]; unfold cday; omega
    rw [hE]
    generalize mst y (m - 1).toNat = L at *
    have hdL : 1 ≤ d ∧ d ≤ 31 := by omega
    obtain ⟨b11, b12⟩ := b1
    obtain ⟨b13, b14⟩ := hdL
    clear hs hy hm hd hE h1 h2 h3 k1 k2 hml
    go_enter Tryz.func11, Tryz.ntmps11
    go_wp2_with (first
      | (go_at_call 13; refine (HC.out _ HG.out).mono ?_; rintro e w1 ⟨rfl, hb⟩; obtain ⟨hB, hz, k0, k1, k2⟩ := HB.out _ _ rfl hb)
      | (go_at_call 36; refine (HL.out _ hB).mono ?_; rintro e w2 ⟨rfl, hb2⟩; have k3 := (hb2.cell (p := ⟨w.heap.size, 2, none⟩) hz).trans k2))
    go_ret2
    exact ⟨ret_2 (by rw [HR.out]) rfl, hB.trans (hb2.mono hB.size)⟩
  · rw [cV_bad hE]
    have h0 := (cE_cases y m d).resolve_left hE
    clear hs hy hm hd hE
    rcases h0 with h0 | h0 | h0
    all_goals
      rw [h0] at HC ⊢
      clear h0
      go_enter Tryz.func11, Tryz.ntmps11
      go_wp2_with (go_at_call 13; refine (HC.out _ HG.out).mono ?_; rintro e w1 ⟨rfl, hb⟩; obtain ⟨hB, hz, k0, k1, k2⟩ := HB.out _ _ rfl hb)
      go_ret2
      exact ⟨rfl, hB⟩

theorem cday_bd {y m d : Int} (h : cE y m d = 0) : 0 ≤ cday y m d - stI y ∧ cday y m d - stI y ≤ 500 ∧ -3652425000000000000 ≤ stI y ∧ stI y ≤ 3652425000000000366 := by
  obtain ⟨h1, h2, h3⟩ := cE_zero.1 h
  obtain ⟨k1, k2⟩ := mE_zero.1 h1
  have hml := mlen_bd y m
  have hmo := (mo_iff m).1 k2
  have b1 := mst_lo y (m - 1).toNat
  have b2 := mst_hi y (m - 1).toNat
  have b3 := stI_bd y (by have := (yr_iff y).1 k1; omega)
  have b4 : (((m - 1).toNat : Nat) : Int) ≤ 11 := by omega
  unfold cday
  omega
theorem pord_any (y m d : Int) (w : World) (hs : StartYM w) (hy : I64 y) (hm : I64 m) (hd : I64 d) :
    Calls Tryz.prog 12 #[.agg #[.int .i64 y, .int .i64 m, .int .i64 d]] w fun e w' => e = .returned (.tuple #[.int .i64 (cV y m d (cday y m d - stI y + 1)), .int .i64 (cE y m d)]) ∧ Below w.heap.size w w' := by
  have HC := Lib.hid (fun X (hX : Below w.heap.size w X) => pday_any y m d X (hs.below hX) hy hm hd)
  have HL := Lib.hid (fun X (hX : Below w.heap.size w X) => qstart_any y X (hs.below hX).1)
  have hT := tri_new w y m d 23 _ rfl
  have HB : Hid (∀ B X, B = w.heap.size → Below (w.alloc (.cells #[.int .i64 y, .int .i64 m, .int .i64 d] 23)).heap.size (w.alloc (.cells #[.int .i64 y, .int .i64 m, .int .i64 d] 23)) X → Below B w X ∧ B < X.heap.size ∧ Three w.heap.size y m d X) := fun B X hB hX => by
    subst hB
    exact ⟨hT.2.2.trans (hX.mono (Nat.le_of_lt hT.2.1)), Nat.lt_of_lt_of_le hT.2.1 hX.size, hT.1.below hT.2.1 hX⟩
  obtain ⟨⟨f0, f1, f2⟩, g1, g2⟩ := hT
  have HG : Hid (Below w.heap.size w (w.alloc (.cells #[.int .i64 y, .int .i64 m, .int .i64 d] 23))) := g2
  clear g2
  by_cases hE : cE y m d = 0
  · obtain ⟨h1, h2, h3⟩ := cE_zero.1 hE
    obtain ⟨k1, k2⟩ := mE_zero.1 h1
    obtain ⟨b11, b12, b13, b14⟩ := cday_bd hE
    have b15 : -9223372036854775808 ≤ cday y m d - stI y ∧ cday y m d - stI y ≤ 9223372036854775806 := by omega
    obtain ⟨b16, b17⟩ := b15
    rw [hE, cV_ok hE] at HC
    rw [yE_in k1, yV_in k1] at HL
    have HR : Hid (cV y m d (cday y m d - stI y + 1) = cday y m d - stI y + 1) := cV_ok hE _
    rw [HR.out, hE]
    clear HR
    generalize cday y m d = c at *
    generalize stI y = L at *
    clear hs hy hm hd hE h1 h2 h3 k1 k2
    go_enter Tryz.func12, Tryz.ntmps12
    go_wp2_with (first
      | (go_at_call 11; refine (HC.out _ HG.out).mono ?_; rintro e w1 ⟨rfl, hb⟩; obtain ⟨hB, hz, k0, k1, k2⟩ := HB.out _ _ rfl hb)
      | (go_at_call 37; refine (HL.out _ hB).mono ?_; rintro e w2 ⟨rfl, hb2⟩))
    go_ret2
    exact ⟨rfl, hB.trans (hb2.mono hB.size)⟩
  · rw [cV_bad hE]
    rw [cV_bad hE] at HC
    have h0 := (cE_cases y m d).resolve_left hE
    clear hs hy hm hd hE
    rcases h0 with h0 | h0 | h0
    all_goals
      rw [h0] at HC ⊢
      clear h0
      go_enter Tryz.func12, Tryz.ntmps12
      go_wp2_with (go_at_call 11; refine (HC.out _ HG.out).mono ?_; rintro e w1 ⟨rfl, hb⟩; obtain ⟨hB, hz, k0, k1, k2⟩ := HB.out _ _ rfl hb)
      go_ret2
      exact ⟨rfl, hB⟩

theorem pwd_any (d : Int) (w : World) :
    Calls Tryz.prog 20 #[.int .i64 d] w fun e w' => e = .returned (.int .i64 (wdI d)) ∧ w = w' := by
  have HM := Lib.hid (fun X => imod_pos d 7 X (by omega) (by omega))
  have b0 := Int.emod_nonneg d (show (7 : Int) ≠ 0 by decide)
  have b1 := Int.emod_lt_of_pos d (show (0 : Int) < 7 by decide)
  have HR : Hid (wdI d = (5 + d % 7) % 7) := by show _ = _; unfold wdI; omega
  generalize d % 7 = r at *
  rw [HR.out]
  clear HR
  go_enter Tryz.func20, Tryz.ntmps20
  go_wp2_with (go_at_call 42; refine (HM.out _).mono ?_; rintro e w' ⟨rfl, rfl⟩)
  go_ret
  exact ⟨rfl, rfl⟩
end Go.Proofs.YtiemlpmhhbmfiaaGreatDoor
/- Package civils, the functions that reckon: Of, FromOrdinal. -/
namespace Go.Proofs.YtiemlpmhhbmfiaaGreatDoor
open Go.RowKit

theorem b3_size {w X : World} (h : Below (w.alloc (.cells #[.int .i64 0, .int .i64 0, .int .i64 0] 23)).heap.size (w.alloc (.cells #[.int .i64 0, .int .i64 0, .int .i64 0] 23)) X) :
    Below w.heap.size w X ∧ w.heap.size < X.heap.size ∧ BkC X w.heap.size 0 0 0 := by
  obtain ⟨_, h1, h2⟩ := tri_new w 0 0 0 23 _ rfl
  exact ⟨h2.trans (h.mono (Nat.le_of_lt h1)), Nat.lt_of_lt_of_le h1 h.size, (BkC.new w 0 0 0).below h1 h⟩
theorem set3_below {w X : World} (h : Below w.heap.size w X) (x y z : Int) :
    Below w.heap.size w (((X.setCell ⟨w.heap.size, 0, none⟩ (.int .i64 x)).setCell ⟨w.heap.size, 1, none⟩ (.int .i64 y)).setCell ⟨w.heap.size, 2, none⟩ (.int .i64 z)) :=
  below_set3 h (Nat.le_refl _) x y z

theorem ret_civ {a b c x y z u v : Int} {k k' k'' k3 : IntKind} (h1 : a = x) (h2 : b = y) (h3 : c = z) (h4 : u = v) : Ending.returned (.tuple #[.agg #[.int k a, .int k' b, .int k'' c], .int k3 u]) = .returned (.tuple #[.agg #[.int k x, .int k' y, .int k'' z], .int k3 v]) := by rw [h1, h2, h3, h4]
set_option maxHeartbeats 800000 in
set_option maxRecDepth 100000 in
theorem pof_any (d : Int) (w : World) (hs : StartYM w) (hd : I64 d) :
    Calls Tryz.prog 16 #[.int .i64 d] w fun e w' => e = .returned (.tuple #[.agg #[.int .i64 (oV d (yrOf d)), .int .i64 (oV d (moOf d : Nat)), .int .i64 (oV d (cDy d))], .int .i64 (oE d)]) ∧ Below w.heap.size w w' := by
  have HO := Lib.hid (fun X (hX : Below w.heap.size w X) => mof_any d X (hs.below hX) hd)
  have hN := b3_size (Below.refl _ (w.alloc (.cells #[.int .i64 0, .int .i64 0, .int .i64 0] 23)))
  have HG : Hid (Below w.heap.size w (w.alloc (.cells #[.int .i64 0, .int .i64 0, .int .i64 0] 23))) := hN.1
  have HB : Hid (∀ X, Below (w.alloc (.cells #[.int .i64 0, .int .i64 0, .int .i64 0] 23)).heap.size (w.alloc (.cells #[.int .i64 0, .int .i64 0, .int .i64 0] 23)) X → Below w.heap.size w X ∧ w.heap.size < X.heap.size ∧ BkC X w.heap.size 0 0 0) := fun X hX => b3_size hX
  clear hN
  cases hy : yr (yrOf d)
  · have hV : ∀ v, oV d v = 0 := fun v => if_neg (by rw [hy]; simp)
    have hE : oE d = 6 := if_neg (by rw [hy]; simp)
    rw [hV, hV, yE_out hy] at HO
    rw [hV, hV, hV, hE]
    clear hy hV hE hs hd
    go_enter Tryz.func16, Tryz.ntmps16
    go_upto_region 2 with (go_at_call 40; refine (HO.out _ HG.out).mono ?_; rintro e w1 ⟨rfl, hb⟩)
    obtain ⟨hB, hz, hK⟩ := HB.out _ hb
    obtain ⟨t0, t1, t2⟩ := hK.three
    have z0 := hK.frozen 0
    have z1 := hK.frozen 1
    have z2 := hK.frozen 2
    go_wp2_with fail
    exact bodyPost_ret (res_civ2 rfl rfl rfl (hK.store 0 0 0).three) rfl ⟨rfl, set3_below hB 0 0 0⟩
  · obtain ⟨r0, r1⟩ := (yr_iff _).1 hy
    obtain ⟨s0, s1, s2, s3⟩ := moOf_spec d
    have hV : ∀ v, oV d v = v := fun v => if_pos hy
    have hE : oE d = 0 := if_pos hy
    have hm : mo (moOf d : Nat) = true := (mo_iff _).2 (by omega)
    have hmE : mE (yrOf d) (moOf d : Nat) = 0 := by unfold mE; rw [hy, hm]; rfl
    have hf : mfst (yrOf d) (moOf d : Nat) = mst (yrOf d) (moOf d - 1) := by unfold mfst; congr 1; omega
    have HS := Lib.hid (fun X (hX : Below w.heap.size w X) => mstart_any (yrOf d) (moOf d : Nat) X (hs.below hX) ⟨by omega, by omega⟩ ⟨by omega, by omega⟩)
    rw [hmE, mV_in hy hm, hf] at HS
    have hst : mst (yrOf d) (moOf d) = mst (yrOf d) (moOf d - 1) + mlen (yrOf d) (moOf d : Nat) := by
      conv => lhs; rw [show moOf d = (moOf d - 1) + 1 by omega]
      simp only [mst]
      rw [show (((moOf d - 1 : Nat) : Int) + 1) = (moOf d : Nat) by omega]
    have hl := mlen_bd (yrOf d) (moOf d : Nat)
    have b0 : 0 ≤ d - mst (yrOf d) (moOf d - 1) := by omega
    have b1 : d - mst (yrOf d) (moOf d - 1) ≤ 31 := by omega
    rw [hV, hV, yE_in hy] at HO
    rw [hV, hV, hV, hE, show cDy d = d - mst (yrOf d) (moOf d - 1) + 1 from rfl]
    clear hst hl s2 s3 hy hV hE hm hmE hf hs
    obtain ⟨d0, d1⟩ := hd
    generalize mst (yrOf d) (moOf d - 1) = S at *
    generalize moOf d = M at *
    generalize yrOf d = Y at *
    go_enter Tryz.func16, Tryz.ntmps16
    go_upto_region 5 with (first
      | (go_at_call 40; refine (HO.out _ HG.out).mono ?_; rintro e w1 ⟨rfl, hb⟩; obtain ⟨hB, hz, hK⟩ := HB.out _ hb)
      | (go_at_call 36; refine (HS.out _ hB).mono ?_; rintro e w2 ⟨rfl, hb2⟩))
    have hB2 := hB.trans (hb2.mono hB.size)
    have hK2 := hK.below hz hb2
    obtain ⟨t0, t1, t2⟩ := hK2.three
    have z0 := hK2.frozen 0
    have z1 := hK2.frozen 1
    have z2 := hK2.frozen 2
    go_wp2_with fail
    exact bodyPost_ret (res_civ2 rfl rfl rfl (hK2.store Y M (d - S + 1)).three) rfl ⟨rfl, set3_below hB2 _ _ _⟩

theorem fE_cases (y n : Int) : (fE y n = 0 ∧ yr y = true ∧ 1 ≤ n ∧ n ≤ lenI y) ∨ (fE y n = 4 ∧ yr y = true ∧ ¬ (1 ≤ n ∧ n ≤ lenI y)) ∨ (fE y n = 6 ∧ yr y = false) := by
  unfold fE
  cases hy : yr y
  · simp
  · by_cases h : 1 ≤ n ∧ n ≤ lenI y
    · left; simp [h]
    · right; left; simp [h]
set_option maxHeartbeats 800000 in
set_option maxRecDepth 100000 in
theorem pfrom_any (y n : Int) (w : World) (hs : StartYM w) (hy : I64 y) (hn : I64 n) :
    Calls Tryz.prog 17 #[.int .i64 y, .int .i64 n] w fun e w' => e = .returned (.tuple #[.agg #[.int .i64 (fV y n y), .int .i64 (fV y n (moOf (stI y + n - 1) : Nat)), .int .i64 (fV y n (cDy (stI y + n - 1)))], .int .i64 (fE y n)]) ∧ Below w.heap.size w w' := by
  have HLn := Lib.hid (fun X (hX : Below w.heap.size w X) => qlen_any y X (hs.below hX).1 hy.1 hy.2)
  have HSt := Lib.hid (fun X (hX : Below w.heap.size w X) => qstart_any y X (hs.below hX).1)
  have hN := b3_size (Below.refl _ (w.alloc (.cells #[.int .i64 0, .int .i64 0, .int .i64 0] 23)))
  have HG : Hid (Below w.heap.size w (w.alloc (.cells #[.int .i64 0, .int .i64 0, .int .i64 0] 23))) := hN.1
  have HB : Hid (∀ X, Below (w.alloc (.cells #[.int .i64 0, .int .i64 0, .int .i64 0] 23)).heap.size (w.alloc (.cells #[.int .i64 0, .int .i64 0, .int .i64 0] 23)) X → Below w.heap.size w X ∧ w.heap.size < X.heap.size ∧ BkC X w.heap.size 0 0 0) := fun X hX => b3_size hX
  clear hN
  rcases fE_cases y n with ⟨hE, h1, h2, h3⟩ | ⟨hE, h1, h2⟩ | ⟨hE, h1⟩
  · have hV : ∀ v, fV y n v = v := fun v => if_pos hE
    have hl := lenI_bd y
    have hsb := stI_bd y (by have := (yr_iff y).1 h1; omega)
    have hyo : yrOf (stI y + n - 1) = y := yrOf_eq (by omega) (by rw [stI_succ]; omega)
    have HO := Lib.hid (fun X (hX : Below w.heap.size w X) => pof_any (stI y + n - 1) X (hs.below hX) ⟨by omega, by omega⟩)
    have hoV : ∀ v, oV (stI y + n - 1) v = v := fun v => if_pos (by rw [hyo]; exact h1)
    have hoE : oE (stI y + n - 1) = 0 := if_pos (by rw [hyo]; exact h1)
    rw [hoV, hoV, hoV, hoE, hyo] at HO
    rw [yE_in h1, yV_in h1] at HLn HSt
    rw [hV, hV, hV, hE]
    generalize cDy (stI y + n - 1) = D at *
    generalize ((moOf (stI y + n - 1) : Nat) : Int) = M at *
    obtain ⟨hs0, hs1⟩ := hsb
    obtain ⟨hl0, hl1⟩ := hl
    clear hyo hoV hoE hV hE h1 hs hy hn
    generalize stI y = S at *
    generalize lenI y = L at *
    have h4 : ¬ n < 1 := by omega
    have h5 : ¬ L < n := by omega
    go_enter Tryz.func17, Tryz.ntmps17
    go_upto_region 7 with (first
      | (go_at_call 41; refine (HLn.out _ HG.out).mono ?_; rintro e w1 ⟨rfl, hb⟩; obtain ⟨hB, hz, hK⟩ := HB.out _ hb)
      | (go_at_call 37; refine (HSt.out _ hB).mono ?_; rintro e w2 ⟨rfl, hb2⟩))
    have hB2 := hB.trans (hb2.mono hB.size)
    have hK2 := hK.below hz hb2
    have hz2 : w.heap.size < w2.heap.size := Nat.lt_of_lt_of_le hz hb2.size
    go_wp2_with fail
    refine (HO.out _ hB2).mono ?_
    rintro e w3 ⟨rfl, hb3⟩
    have hB3 := hB2.trans (hb3.mono hB2.size)
    have hK3 := hK2.below hz2 hb3
    obtain ⟨t0, t1, t2⟩ := hK3.three
    have z0 := hK3.frozen 0
    have z1 := hK3.frozen 1
    have z2 := hK3.frozen 2
    go_wp2_with fail
    exact bodyPost_ret (res_civ2 rfl rfl rfl (hK3.store y M D).three) rfl ⟨rfl, set3_below hB3 _ _ _⟩
  · have hV : ∀ v, fV y n v = 0 := fun v => if_neg (by omega)
    rw [yE_in h1, yV_in h1] at HLn
    rw [hV, hV, hV, hE]
    obtain ⟨n0, n1⟩ := hn
    clear hV hE h1 hs hy HSt
    generalize lenI y = L at *
    by_cases h4 : n < 1
    · clear h2
      go_enter Tryz.func17, Tryz.ntmps17
      go_upto_region 5 with (go_at_call 41; refine (HLn.out _ HG.out).mono ?_; rintro e w1 ⟨rfl, hb⟩; obtain ⟨hB, hz, hK⟩ := HB.out _ hb)
      obtain ⟨t0, t1, t2⟩ := hK.three
      have z0 := hK.frozen 0
      have z1 := hK.frozen 1
      have z2 := hK.frozen 2
      go_wp2_with fail
      exact bodyPost_ret (res_civ2 rfl rfl rfl (hK.store 0 0 0).three) rfl ⟨rfl, set3_below hB 0 0 0⟩
    · have h5 : L < n := by omega
      clear h2
      go_enter Tryz.func17, Tryz.ntmps17
      go_upto_region 5 with (go_at_call 41; refine (HLn.out _ HG.out).mono ?_; rintro e w1 ⟨rfl, hb⟩; obtain ⟨hB, hz, hK⟩ := HB.out _ hb)
      obtain ⟨t0, t1, t2⟩ := hK.three
      have z0 := hK.frozen 0
      have z1 := hK.frozen 1
      have z2 := hK.frozen 2
      go_wp2_with fail
      exact bodyPost_ret (res_civ2 rfl rfl rfl (hK.store 0 0 0).three) rfl ⟨rfl, set3_below hB 0 0 0⟩
  · have hV : ∀ v, fV y n v = 0 := fun v => if_neg (by omega)
    rw [yE_out h1, yV_out h1] at HLn
    rw [hV, hV, hV, hE]
    clear hV hE h1 hs hy hn HSt
    go_enter Tryz.func17, Tryz.ntmps17
    go_upto_region 3 with (go_at_call 41; refine (HLn.out _ HG.out).mono ?_; rintro e w1 ⟨rfl, hb⟩; obtain ⟨hB, hz, hK⟩ := HB.out _ hb)
    obtain ⟨t0, t1, t2⟩ := hK.three
    have z0 := hK.frozen 0
    have z1 := hK.frozen 1
    have z2 := hK.frozen 2
    go_wp2_with fail
    exact bodyPost_ret (res_civ2 rfl rfl rfl (hK.store 0 0 0).three) rfl ⟨rfl, set3_below hB 0 0 0⟩
end Go.Proofs.YtiemlpmhhbmfiaaGreatDoor
/- Package civils: Compare; what of package cmp it asks. -/
namespace Go.Proofs.YtiemlpmhhbmfiaaGreatDoor
open Go.RowKit

theorem nan64_any (x : Int) (w : World) : Calls Tryz.prog 71 #[.int .i64 x] w fun e w' => e = .returned (.bool false) ∧ w = w' := by
  have hne : (x != x) = false := by simp
  go_enter Tryz.func71, Tryz.ntmps71
  go_wp2
  go_ret
  exact ⟨rfl, rfl⟩
theorem nan_any (x : Int) (w : World) : Calls Tryz.prog 72 #[.int .i64 x] w fun e w' => e = .returned (.bool false) ∧ w = w' := by
  have hne : (x != x) = false := by simp
  go_enter Tryz.func72, Tryz.ntmps72
  go_wp2
  go_ret
  exact ⟨rfl, rfl⟩
theorem cmp64_any (x y : Int) (w : World) : Calls Tryz.prog 45 #[.int .i64 x, .int .i64 y] w fun e w' => e = .returned (.int .i64 (cm1 x y 0)) ∧ w = w' := by
  have HN := Lib.hid nan64_any
  unfold cm1
  by_cases h1 : x < y
  · rw [if_pos h1]
    go_enter Tryz.func45, Tryz.ntmps45
    go_wp2_with (go_at_call 71; refine (HN.out _ _).mono ?_; rintro e w' ⟨rfl, rfl⟩)
    go_ret
    exact ⟨rfl, rfl⟩
  · rw [if_neg h1]
    by_cases h2 : y < x
    · rw [if_pos h2]
      go_enter Tryz.func45, Tryz.ntmps45
      go_wp2_with (go_at_call 71; refine (HN.out _ _).mono ?_; rintro e w' ⟨rfl, rfl⟩)
      go_ret
      exact ⟨rfl, rfl⟩
    · rw [if_neg h2]
      go_enter Tryz.func45, Tryz.ntmps45
      go_wp2_with (go_at_call 71; refine (HN.out _ _).mono ?_; rintro e w' ⟨rfl, rfl⟩)
      go_ret
      exact ⟨rfl, rfl⟩
theorem cmpi_any (x y : Int) (w : World) : Calls Tryz.prog 46 #[.int .i64 x, .int .i64 y] w fun e w' => e = .returned (.int .i64 (cm1 x y 0)) ∧ w = w' := by
  have HN := Lib.hid nan_any
  unfold cm1
  by_cases h1 : x < y
  · rw [if_pos h1]
    go_enter Tryz.func46, Tryz.ntmps46
    go_wp2_with (go_at_call 72; refine (HN.out _ _).mono ?_; rintro e w' ⟨rfl, rfl⟩)
    go_ret
    exact ⟨rfl, rfl⟩
  · rw [if_neg h1]
    by_cases h2 : y < x
    · rw [if_pos h2]
      go_enter Tryz.func46, Tryz.ntmps46
      go_wp2_with (go_at_call 72; refine (HN.out _ _).mono ?_; rintro e w' ⟨rfl, rfl⟩)
      go_ret
      exact ⟨rfl, rfl⟩
    · rw [if_neg h2]
      go_enter Tryz.func46, Tryz.ntmps46
      go_wp2_with (go_at_call 72; refine (HN.out _ _).mono ?_; rintro e w' ⟨rfl, rfl⟩)
      go_ret
      exact ⟨rfl, rfl⟩
/-- The first of three that is not 0. -/
def or3 (a b c : Int) : Int := if a = 0 then (if b = 0 then c else b) else a
theorem or3_cm (y m d x u v : Int) : or3 (cm1 y x 0) (cm1 m u 0) (cm1 d v 0) = cm3 y m d x u v := by
  unfold or3 cm3 cm1
  split <;> (try split) <;> (try split) <;> (try split) <;> (try split) <;> (try split) <;> omega
set_option maxHeartbeats 400000 in
theorem or_any (g : Nat) (a b c : Int) (w : World) (h0 : w.cell? ⟨g, 0, none⟩ = some (.int .i64 a)) (h1 : w.cell? ⟨g, 1, none⟩ = some (.int .i64 b)) (h2 : w.cell? ⟨g, 2, none⟩ = some (.int .i64 c)) :
    Calls Tryz.prog 44 #[.slice (some ⟨g, 0, none⟩) 3 3] w fun e w' => e = .returned (.int .i64 (or3 a b c)) ∧ w = w' := by
  go_enter Tryz.func44, Tryz.ntmps44
  go_wp2_with fail
  go_loop [8] (fun v => ∃ k : Nat, k ≤ 3 ∧ v = .int .i64 k ∧ (1 ≤ k → a = 0) ∧ (2 ≤ k → b = 0) ∧ (3 ≤ k → c = 0)) (fun v => 3 - (intOf v).toNat)
  case atStart => exact ⟨0, by omega, rfl, by omega, by omega, by omega⟩
  case round =>
    obtain ⟨k, hk, rfl, ha, hb, hc⟩ := hrel
    rcases (show k = 0 ∨ k = 1 ∨ k = 2 ∨ k = 3 by omega) with rfl | rfl | rfl | rfl
    · by_cases hz : a = 0
      · have hz1 : (a != 0) = false := by simp [hz]
        clear ha hb hc
        go_wp2_with fail
        go_round
        case rel => exact ⟨1, by omega, by go_num, fun _ => hz, by omega, by omega⟩
        case measure => simp [intOf]
      · have hz1 : (a != 0) = true := by simp [hz]
        have HR : Hid (or3 a b c = a) := if_neg hz
        clear ha hb hc
        go_wp2_with fail
        go_ret
        exact ⟨ret_i HR.out.symm, rfl⟩
    · have haz := ha (by omega)
      by_cases hz : b = 0
      · have hz1 : (b != 0) = false := by simp [hz]
        clear ha hb hc
        go_wp2_with fail
        go_round
        case rel => exact ⟨2, by omega, by go_num, fun _ => haz, fun _ => hz, by omega⟩
        case measure => simp [intOf]
      · have hz1 : (b != 0) = true := by simp [hz]
        have HR : Hid (or3 a b c = b) := by show _ = _; unfold or3; rw [if_pos haz, if_neg hz]
        clear ha hb hc haz
        go_wp2_with fail
        go_ret
        exact ⟨ret_i HR.out.symm, rfl⟩
    · have haz := ha (by omega)
      have hbz := hb (by omega)
      by_cases hz : c = 0
      · have hz1 : (c != 0) = false := by simp [hz]
        clear ha hb hc
        go_wp2_with fail
        go_round
        case rel => exact ⟨3, by omega, by go_num, fun _ => haz, fun _ => hbz, fun _ => hz⟩
        case measure => simp [intOf]
      · have hz1 : (c != 0) = true := by simp [hz]
        have HR : Hid (or3 a b c = c) := by show _ = _; unfold or3; rw [if_pos haz, if_pos hbz]
        clear ha hb hc haz hbz
        go_wp2_with fail
        go_ret
        exact ⟨ret_i HR.out.symm, rfl⟩
    · have haz := ha (by omega)
      have hbz := hb (by omega)
      have hcz := hc (by omega)
      have HR : Hid (or3 a b c = 0) := by show _ = _; unfold or3; rw [if_pos haz, if_pos hbz, hcz]
      clear ha hb hc haz hbz hcz
      go_wp2_with fail
      go_ret
      exact ⟨ret_i HR.out.symm, rfl⟩

set_option maxHeartbeats 1600000 in
set_option maxRecDepth 100000 in
theorem pcmp_any (y m d : Int) (w : World) (x u v : Int) :
    Calls Tryz.prog 25 #[.agg #[.int .i64 y, .int .i64 m, .int .i64 d], .agg #[.int .i64 x, .int .i64 u, .int .i64 v]] w fun e w' => e = .returned (.int .i64 (cm3 y m d x u v)) ∧ Below w.heap.size w w' := by
  have K1 := Lib.hid cmp64_any
  have K2 := Lib.hid cmpi_any
  have KO : Hid (∀ (g : Nat) (a b c : Int) (X : World), X.cell? ⟨g, 0, none⟩ = some (.int .i64 a) → X.cell? ⟨g, 1, none⟩ = some (.int .i64 b) → X.cell? ⟨g, 2, none⟩ = some (.int .i64 c) →
    Calls Tryz.prog 44 #[.slice (some ⟨g, 0, none⟩) 3 3] X fun e w' => e = .returned (.int .i64 (or3 a b c)) ∧ X = w') := or_any
  have HR : Hid (cm3 y m d x u v = or3 (cm1 y x 0) (cm1 m u 0) (cm1 d v 0)) := (or3_cm y m d x u v).symm
  rw [HR.out]
  clear HR
  generalize hA : cm1 y x 0 = A
  generalize hB : cm1 m u 0 = B
  generalize hC : cm1 d v 0 = C
  have KA : Hid (∀ X, Calls Tryz.prog 45 #[.int .i64 y, .int .i64 x] X fun e w' => e = .returned (.int .i64 A) ∧ X = w') := by rw [← hA]; exact fun X => cmp64_any y x X
  have KB : Hid (∀ X, Calls Tryz.prog 46 #[.int .i64 m, .int .i64 u] X fun e w' => e = .returned (.int .i64 B) ∧ X = w') := by rw [← hB]; exact fun X => cmpi_any m u X
  have KC : Hid (∀ X, Calls Tryz.prog 46 #[.int .i64 d, .int .i64 v] X fun e w' => e = .returned (.int .i64 C) ∧ X = w') := by rw [← hC]; exact fun X => cmpi_any d v X
  clear hA hB hC K1 K2
  go_enter Tryz.func25, Tryz.ntmps25
  go_upto_region 1 with fail
  obtain ⟨p1, z1, b1⟩ := three_at w _ rfl y m d 23
  generalize (w.alloc (Obj.cells #[Value.int IntKind.i64 y, Value.int IntKind.i64 m, Value.int IntKind.i64 d] 23)) = W1 at *
  obtain ⟨p2, z2, b2⟩ := three_at W1 _ z1 x u v 23
  generalize (W1.alloc (Obj.cells #[Value.int IntKind.i64 x, Value.int IntKind.i64 u, Value.int IntKind.i64 v] 23)) = W2 at *
  have q1 := p1.keep (by omega) b2
  have hb : Below w.heap.size w W2 := b1.trans (b2.mono (by omega))
  have hg0 : w.heap.size < W2.heap.size := by omega
  have hg1 : w.heap.size + 1 < W2.heap.size := by omega
  clear p1 b1 b2 z1 z2
  generalize w.heap.size + 1 = g1 at *
  obtain ⟨f0, f1, f2⟩ := id q1
  obtain ⟨h0, h1, h2⟩ := id p2
  clear q1 p2
  go_region_held3 (fun w' => w'.cell? ⟨w.heap.size, 0, none⟩ = some (.int .i64 y) ∧ w'.cell? ⟨w.heap.size, 1, none⟩ = some (.int .i64 m) ∧ w'.cell? ⟨w.heap.size, 2, none⟩ = some (.int .i64 d) ∧ w'.cell? ⟨g1, 0, none⟩ = some (.int .i64 x) ∧ w'.cell? ⟨g1, 1, none⟩ = some (.int .i64 u) ∧ w'.cell? ⟨g1, 2, none⟩ = some (.int .i64 v)) (go_keep)
    (first
    | (go_at_call 45; (with_reducible refine (KA.out _).mono ?_); rintro e x1 ⟨rfl, rfl⟩)
    | (go_at_call 46; (with_reducible refine (KB.out _).mono ?_); rintro e x1 ⟨rfl, rfl⟩)
    | (go_at_call 46; (with_reducible refine (KC.out _).mono ?_); rintro e x1 ⟨rfl, rfl⟩)
    | (go_at_call 44; have t := three_at W2 _ rfl A B C 3; refine (KO.out W2.heap.size A B C _ ?_ ?_ ?_).mono ?_; exact t.1.1; exact t.1.2.1; exact t.1.2.2; rintro e x2 ⟨rfl, rfl⟩))
  all_goals
    go_wp2_with fail
    go_ret
    exact ⟨rfl, hb.trans (Below.mono (B := W2.heap.size) (by go_grown) (Nat.le_of_lt hg0))⟩
end Go.Proofs.YtiemlpmhhbmfiaaGreatDoor
/- Package civils: Text, and what it is made of. -/
namespace Go.Proofs.YtiemlpmhhbmfiaaGreatDoor
open Go.RowKit Go.Shelf

/-- A number with at least so many digits. -/
def padS (k n : Nat) : ByteArray := ⟨(List.replicate (k - (Lib.decDigits n).length) 48 ++ Lib.decDigits n).toArray⟩
theorem rep_one (c : Nat) : Lib.repeatL [48] c = List.replicate c (48 : UInt8) := by
  induction c with
  | zero => simp [Lib.repeatL]
  | succ c ih => simp [Lib.repeatL, List.replicate_succ, ih]
theorem padded_any (n k : Nat) (w : World) (hs : StartI w) (hn : n ≤ 9223372036854775807) (hk : k ≤ 4) :
    Calls Tryz.prog 48 #[.int .i64 n, .int .i64 k] w fun e w' => e = .returned (.string (padS k n)) ∧ Below w.heap.size w w' := by
  have HT := Lib.hid (itext_any n w hs (by omega) (by omega))
  have hit : Lib.itoa ((n : Nat) : Int) = Lib.decDigits n := by
    unfold Lib.itoa
    rw [if_neg (by omega)]; rfl
  rw [hit] at HT
  have hL : (Lib.decDigits n).length ≤ 19 := dec_len 18 n (by omega)
  have hL0 : 1 ≤ (Lib.decDigits n).length := dec_pos n
  unfold padS
  generalize Lib.decDigits n = D at *
  obtain ⟨S, hS⟩ : ∃ S : ByteArray, S = ⟨D.toArray⟩ := ⟨_, rfl⟩
  have hSs : S.size = D.length := by rw [hS]; show D.toArray.size = _; simp
  rw [← hS] at HT
  have HR := Lib.hid (fun (c : Nat) (X : World) (hc : c ≤ 4) => Any.strings_Repeat Tryz.lays105 Tryz.extra105 ⟨#[48]⟩ c X (by omega) (by show 1 * c ≤ _; omega))
  have HP : Hid (∀ c : Nat, c = k - D.length → (⟨(Lib.repeatL [48] c).toArray⟩ : ByteArray) ++ S = ⟨(List.replicate (k - D.length) 48 ++ D).toArray⟩) := fun c hc => by
    subst hc
    refine ByteArray.ext (Array.toList_inj.1 ?_)
    simp only [ByteArray.data_append, Array.toList_append]
    rw [hS, rep_one]
  have HZ : Hid (∀ c : Nat, (⟨(Lib.repeatL [48] c).toArray⟩ : ByteArray).size = c) := fun c => by
    show (Lib.repeatL [48] c).toArray.size = c
    rw [rep_one]; simp
  have hmax : max 0 ((k : Int) - (S.size : Int)) = ((k - D.length : Nat) : Int) := by omega
  have hc4 : k - D.length ≤ 4 := by omega
  have hHP := Lib.hid (HP.out _ rfl)
  have hz := HZ.out (k - D.length)
  have hsm : ¬ 9223372036854775807 < (⟨(Lib.repeatL [48] (k - D.length)).toArray⟩ : ByteArray).size + S.size := by omega
  have HRR := Lib.hid (fun X => HR.out (k - D.length) X hc4)
  have hS1 : S.size ≤ 19 := by omega
  have hHX := Lib.hid hmax
  clear hit hs hS HR HP HZ hSs hmax hz
  generalize (List.replicate (k - D.length) 48 ++ D) = RR at *
  generalize (⟨(Lib.repeatL [48] (k - D.length)).toArray⟩ : ByteArray) = RS at *
  generalize k - D.length = c at *
  clear hL hL0
  go_enter Tryz.func48, Tryz.ntmps48
  go_upto_region 2 with (go_at_call 73; refine HT.out.mono ?_; rintro e w1 ⟨rfl, hb⟩)
  go_wp2_with fail
  rw [hHX.out]
  refine (HRR.out _).mono ?_
  rintro e w2 ⟨rfl, hb2⟩
  go_wp2_with fail
  go_ret
  exact ⟨by rw [← hHP.out]; rfl, hb.trans (hb2.mono hb.size)⟩
theorem yeart_any (y : Int) (w : World) (hs : StartI w) (hy : -10000000000000000 ≤ y ∧ y ≤ 10000000000000000) :
    Calls Tryz.prog 47 #[.int .i64 y] w fun e w' => e = .returned (.string ⟨(ytx y).toArray⟩) ∧ Below w.heap.size w w' := by
  have HP := Lib.hid (padded_any y.natAbs 4 w hs (by omega) (by omega))
  have hp : padS 4 y.natAbs = ⟨(padd (Lib.decDigits y.natAbs)).toArray⟩ := rfl
  have hsz : (padS 4 y.natAbs).size ≤ 17 := by
    have := dec_len 16 y.natAbs (by omega)
    show (List.replicate (4 - (Lib.decDigits y.natAbs).length) (48 : UInt8) ++ Lib.decDigits y.natAbs).toArray.size ≤ 17
    simp; omega
  unfold ytx preB
  obtain ⟨y0, y1⟩ := hy
  by_cases h : y < 0
  · have hE : Hid ((⟨#[45]⟩ : ByteArray) ++ padS 4 y.natAbs = ⟨((if decide (y < 0) = true then [45] else []) ++ padd (Lib.decDigits y.natAbs)).toArray⟩) := by
      show _ = _
      rw [hp, decide_eq_true h]
      refine ByteArray.ext (Array.toList_inj.1 ?_)
      simp [ByteArray.data_append]
    rw [← hE.out]
    have hs1 : (⟨#[45]⟩ : ByteArray).size = 1 := rfl
    have hs4 : ¬ 9223372036854775807 < 1 + (padS 4 y.natAbs).size := by omega
    have hn : -y = ((y.natAbs : Nat) : Int) := by omega
    have HN : Hid (∀ X, X = w → Calls Tryz.prog 48 #[.int .i64 (-y), .int .i64 4] X fun e w' => e = .returned (.string (padS 4 y.natAbs)) ∧ Below w.heap.size w w') := fun X hX => by subst hX; rw [hn]; exact HP.out
    clear hn hp HP hE hs
    generalize padS 4 y.natAbs = P at *
    go_enter Tryz.func47, Tryz.ntmps47
    go_wp2_with (go_at_call 48; refine (HN.out _ rfl).mono ?_; rintro e w1 ⟨rfl, hb⟩)
    go_ret
    exact ⟨rfl, hb⟩
  · have hE : Hid (padS 4 y.natAbs = ⟨((if decide (y < 0) = true then [45] else []) ++ padd (Lib.decDigits y.natAbs)).toArray⟩) := by
      show _ = _
      rw [hp, decide_eq_false h]; rfl
    rw [← hE.out]
    have hn : y = ((y.natAbs : Nat) : Int) := by omega
    have HN : Hid (∀ X, X = w → Calls Tryz.prog 48 #[.int .i64 y, .int .i64 4] X fun e w' => e = .returned (.string (padS 4 y.natAbs)) ∧ Below w.heap.size w w') := fun X hX => by
      subst hX
      have := HP.out
      rw [← hn] at this
      exact this
    clear hn hp HP hE hs
    generalize padS 4 y.natAbs = P at *
    go_enter Tryz.func47, Tryz.ntmps47
    go_wp2_with (go_at_call 48; refine (HN.out _ rfl).mono ?_; rintro e w1 ⟨rfl, hb⟩)
    go_ret
    exact ⟨rfl, hb⟩
theorem padS_two (n : Nat) (h : n ≤ 99) : padS 2 n = ⟨(two2 n).toArray⟩ := by
  unfold padS two2
  congr 1
  by_cases h10 : n < 10
  · rw [Lib.decDigits, dif_pos h10, show n / 10 = 0 by omega, show n % 10 = n by omega]; rfl
  · rw [Lib.decDigits, dif_neg h10, Lib.decDigits, dif_pos (by omega)]; rfl

/-- A row of three strings. -/
theorem str3_at (W : World) (a b c : ByteArray) (t : TypeId) :
    ∀ (j : Nat) x, [a, b, c][j]? = some x → (W.alloc (.cells #[.string a, .string b, .string c] t)).cell? ⟨W.heap.size, 0 + j, none⟩ = some (.string x) := fun j x h => by
  have hc := cell_of_row _ W.heap.size j _ _ (0, 0) (heap_alloc_new W (.cells #[.string a, .string b, .string c] t))
  rw [show 0 + j = j by omega, hc]
  match j, h with
  | 0, h => simp only [List.getElem?_cons_zero, Option.some.injEq] at h; subst h; rfl
  | 1, h => simp only [List.getElem?_cons_succ, List.getElem?_cons_zero, Option.some.injEq] at h; subst h; rfl
  | 2, h => simp only [List.getElem?_cons_succ, List.getElem?_cons_zero, Option.some.injEq] at h; subst h; rfl
  | n + 3, h => simp at h
theorem join3 (y m d : Int) : (⟨(Lib.join ([(⟨(ytx y).toArray⟩ : ByteArray), ⟨(two2 m.toNat).toArray⟩, ⟨(two2 d.toNat).toArray⟩].map (·.data.toList)) [45]).toArray⟩ : ByteArray) = civS y m d := by
  unfold civS ctx
  simp [Lib.join_cons, Lib.joinTail]
set_option maxHeartbeats 1600000 in
set_option maxRecDepth 100000 in
theorem ptext_any (y m d : Int) (w : World) (hs : StartYM w) (hi : StartI w) (hy : I64 y) (hm : I64 m) (hd : I64 d) :
    Calls Tryz.prog 27 #[.agg #[.int .i64 y, .int .i64 m, .int .i64 d]] w fun e w' => e = .returned (.tuple #[.string (cTx y m d), .int .i64 (cE y m d)]) ∧ Below w.heap.size w w' := by
  have HC := Lib.hid (fun X (hX : Below w.heap.size w X) => pcheck_any y m d X (hs.below hX) hy hm hd)
  have hT := tri_new w y m d 23 _ rfl
  have HB : Hid (∀ B X, B = w.heap.size → Below (w.alloc (.cells #[.int .i64 y, .int .i64 m, .int .i64 d] 23)).heap.size (w.alloc (.cells #[.int .i64 y, .int .i64 m, .int .i64 d] 23)) X → Below B w X ∧ B < X.heap.size ∧ Three w.heap.size y m d X) := fun B X hB hX => by
    subst hB
    exact ⟨hT.2.2.trans (hX.mono (Nat.le_of_lt hT.2.1)), Nat.lt_of_lt_of_le hT.2.1 hX.size, hT.1.below hT.2.1 hX⟩
  obtain ⟨⟨f0, f1, f2⟩, g1, g2⟩ := hT
  have HG : Hid (Below w.heap.size w (w.alloc (.cells #[.int .i64 y, .int .i64 m, .int .i64 d] 23))) := g2
  clear g2
  by_cases hE : cE y m d = 0
  · obtain ⟨h1, h2, h3⟩ := cE_zero.1 hE
    obtain ⟨k1, k2⟩ := mE_zero.1 h1
    have hml := mlen_bd y m
    have hmo := (mo_iff m).1 k2
    have hyr := (yr_iff y).1 k1
    have hTx : cTx y m d = civS y m d := if_pos hE
    rw [hE] at HC
    rw [hTx, hE]
    have HY : Hid (∀ X Y, Below w.heap.size w X → Below X.heap.size X Y → Calls Tryz.prog 47 #[.int .i64 y] Y fun e w' => e = .returned (.string ⟨(ytx y).toArray⟩) ∧ Below X.heap.size X w') := fun X Y hX hY =>
      (yeart_any y Y (hi.below (hX.trans (hY.mono hX.size))) ⟨by omega, by omega⟩).mono fun _ _ ⟨p, q⟩ => ⟨p, hY.trans (q.mono hY.size)⟩
    have HPd : ∀ (z : Int) (_ : 0 ≤ z) (_ : z ≤ 99) X Y, Below w.heap.size w X → Below X.heap.size X Y → Calls Tryz.prog 48 #[.int .i64 z, .int .i64 2] Y fun e w' => e = .returned (.string ⟨(two2 z.toNat).toArray⟩) ∧ Below X.heap.size X w' := fun z h0 h1 X Y hX hY => by
      have := padded_any z.toNat 2 Y (hi.below (hX.trans (hY.mono hX.size))) (by omega) (by omega)
      rw [show ((z.toNat : Nat) : Int) = z by omega, padS_two _ (by omega)] at this
      exact this.mono fun _ _ ⟨p, q⟩ => ⟨p, hY.trans (q.mono hY.size)⟩
    have HM := Lib.hid (HPd m (by omega) (by omega))
    have HD := Lib.hid (HPd d (by omega) (by omega))
    have HJ := Lib.hid (join3 y m d)
    have hlen : (Lib.join ([(⟨(ytx y).toArray⟩ : ByteArray), ⟨(two2 m.toNat).toArray⟩, ⟨(two2 d.toNat).toArray⟩].map (·.data.toList)) [45]).length ≤ 140737488355328 := by
      have := dec_len 16 y.natAbs (by omega)
      simp [Lib.join_cons, Lib.joinTail, two2, ytx, padd, preB]
      split <;> simp <;> omega
    have HLn := Lib.hid hlen
    clear hs hi hy hm hd hE h1 h2 h3 k1 k2 hml hmo hyr hTx HPd hlen
    generalize (⟨(ytx y).toArray⟩ : ByteArray) = TY at *
    generalize (⟨(two2 m.toNat).toArray⟩ : ByteArray) = TM at *
    generalize (⟨(two2 d.toNat).toArray⟩ : ByteArray) = TD at *
    generalize civS y m d = TT at *
    have HJn : Hid (∀ (bk : Nat) (X : World), (∀ (j : Nat) x, [TY, TM, TD][j]? = some x → X.cell? ⟨bk, 0 + j, none⟩ = some (.string x)) → bk < X.heap.size →
        Calls Tryz.prog 49 #[.slice (some ⟨bk, 0, none⟩) 3 3, .string ⟨#[45]⟩] X fun e w' => e = .returned (.string TT) ∧ Below X.heap.size X w') := fun bk X hc hbk => by
      have := Any.strings_Join Tryz.lays156 Tryz.extra156 bk 0 3 [TY, TM, TD] ⟨#[45]⟩ X hc hbk (by simp) (by simp) HLn.out
      rw [show (⟨#[45]⟩ : ByteArray).data.toList = [45] from rfl, HJ.out] at this
      exact this
    clear HJ HLn
    go_enter Tryz.func27, Tryz.ntmps27
    go_upto_region 4 with (go_at_call 13; refine (HC.out _ HG.out).mono ?_; rintro e w1 ⟨rfl, hb⟩; obtain ⟨hB, hz, t0, t1, t2⟩ := HB.out _ _ rfl hb)
    clear f0 f1 f2 HC HG HB hb
    have KY : Hid (∀ X, Below w1.heap.size w1 X → Calls Tryz.prog 47 #[.int .i64 y] X fun e w' => e = .returned (.string TY) ∧ Below w1.heap.size w1 w') := fun X hX => HY.out w1 X hB hX
    have KM : Hid (∀ X, Below w1.heap.size w1 X → Calls Tryz.prog 48 #[.int .i64 m, .int .i64 2] X fun e w' => e = .returned (.string TM) ∧ Below w1.heap.size w1 w') := fun X hX => HM.out w1 X hB hX
    have KD : Hid (∀ X, Below w1.heap.size w1 X → Calls Tryz.prog 48 #[.int .i64 d, .int .i64 2] X fun e w' => e = .returned (.string TD) ∧ Below w1.heap.size w1 w') := fun X hX => HD.out w1 X hB hX
    clear HY HM HD
    go_region_held3 (fun w' => w'.cell? ⟨w.heap.size, 0, none⟩ = some (.int .i64 y) ∧ w'.cell? ⟨w.heap.size, 1, none⟩ = some (.int .i64 m) ∧ w'.cell? ⟨w.heap.size, 2, none⟩ = some (.int .i64 d)) (go_keep)
      (first
      | (go_at_call 47; ((with_reducible refine (KY.out _ (by go_grown)).mono ?_); rintro e x1 ⟨rfl, hX1⟩; have k1 := (hX1.cell (p := ⟨w.heap.size, 0, none⟩) hz).trans t0; have k2 := (hX1.cell (p := ⟨w.heap.size, 1, none⟩) hz).trans t1; have k3 := (hX1.cell (p := ⟨w.heap.size, 2, none⟩) hz).trans t2))
      | (go_at_call 48; ((with_reducible refine (KM.out _ (by go_grown)).mono ?_); rintro e x1 ⟨rfl, hX1⟩; have k1 := (hX1.cell (p := ⟨w.heap.size, 0, none⟩) hz).trans t0; have k2 := (hX1.cell (p := ⟨w.heap.size, 1, none⟩) hz).trans t1; have k3 := (hX1.cell (p := ⟨w.heap.size, 2, none⟩) hz).trans t2))
      | (go_at_call 48; ((with_reducible refine (KD.out _ (by go_grown)).mono ?_); rintro e x1 ⟨rfl, hX1⟩; have k1 := (hX1.cell (p := ⟨w.heap.size, 0, none⟩) hz).trans t0; have k2 := (hX1.cell (p := ⟨w.heap.size, 1, none⟩) hz).trans t1; have k3 := (hX1.cell (p := ⟨w.heap.size, 2, none⟩) hz).trans t2)))
    all_goals
      go_wp2_with fail
      refine (HJn.out _ _ (str3_at _ _ _ _ _) (by simp)).mono ?_
      rintro e x2 ⟨rfl, hX2⟩
      go_wp2_with fail
      go_ret2
      exact ⟨rfl, hB.trans (Below.mono (hX1.trans (((Below.refl x1.heap.size x1).alloc (Nat.le_refl _) _).mono hX1.size |>.trans (hX2.mono (by have := hX1.size; simp; omega)))) hB.size)⟩
  · have hTx : cTx y m d = ⟨#[]⟩ := if_neg hE
    rw [hTx]
    have h0 := (cE_cases y m d).resolve_left hE
    clear hs hi hy hm hd hE hTx
    rcases h0 with h0 | h0 | h0
    all_goals
      rw [h0] at HC ⊢
      clear h0
      go_enter Tryz.func27, Tryz.ntmps27
      go_wp2_with (go_at_call 13; refine (HC.out _ HG.out).mono ?_; rintro e w1 ⟨rfl, hb⟩; obtain ⟨hB, hz, k0, k1, k2⟩ := HB.out _ _ rfl hb)
      go_ret2
      exact ⟨rfl, hB⟩
end Go.Proofs.YtiemlpmhhbmfiaaGreatDoor
