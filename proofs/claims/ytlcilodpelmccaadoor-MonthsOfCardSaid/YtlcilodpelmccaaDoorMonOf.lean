/- The laws MonthsOf and MonthsAdd: they return true for every number. -/
import Derived.Test.YtlcilodpelmccaaDoorMonDays
namespace Go.Proofs.YtlcilodpelmccaaDoor.mon
open Go.RowKit

set_option maxRecDepth 100000 in
set_option maxHeartbeats 8000000 in
theorem of_law (d : Int) (w W : World) (d0 : -9223372036854775808 ≤ d) (d1 : d ≤ 9223372036854775807) (h : Ok w W) :
    Calls Tryd.prog 4 #[.int .i64 d] W fun e w' => e = .returned (.bool true) ∧ Ok w w' := by
  have hd := i64_of d0 d1
  have RY : Hid (∀ X, Ok w X → Calls Tryd.prog 20 #[.int .i64 d] X fun x w' => x = .returned (.tuple #[.int .i64 (yrOf d), .bool (yr (yrOf d))]) ∧ Ok w w') := fun X hX => c_same hX (ofR_any d X d0 d1)
  cases hy : yr (yrOf d) with
  | false =>
    have KO : Hid (∀ X, Ok w X → Calls Tryd.prog 19 #[.int .i64 d] X fun x w' => x = .returned (.tuple #[.int .i64 0, .int .i64 0, .int .i64 6]) ∧ Ok w w') := fun X hX => c_of hX d hd (if_neg (by rw [hy]; decide)) (if_neg (by rw [hy]; decide)) (yE_out hy)
    rw [hy] at RY
    clear hy hd
    go_enter Tryd.func4, Tryd.ntmps4
    go_wp2_with (first
      | (go_at_call 19; refine (KO.out _ (by assumption)).mono ?_; rintro e w' ⟨rfl, hk⟩)
      | (go_at_call 20; refine (RY.out _ (by assumption)).mono ?_; rintro e w' ⟨rfl, hk⟩)
      | (go_at_call 13; refine (lives_t w _ (by assumption)).mono ?_; rintro e w' ⟨rfl, hk⟩))
    go_ret
    exact ⟨rfl, by assumption⟩
  | true =>
    obtain ⟨r0, r1⟩ := (yr_iff _).1 hy
    obtain ⟨s0, s1, s2, s3⟩ := moOf_spec d
    have hm : mo (moOf d : Nat) = true := (mo_iff _).2 (by omega)
    have KO : Hid (∀ X, Ok w X → Calls Tryd.prog 19 #[.int .i64 d] X fun x w' => x = .returned (.tuple #[.int .i64 (yrOf d), .int .i64 (moOf d : Nat), .int .i64 0]) ∧ Ok w w') := fun X hX => c_of hX d hd (if_pos hy) (if_pos hy) (yE_in hy)
    have RO : Hid (∀ X, Ok w X → Calls Tryd.prog 21 #[.int .i64 d] X fun x w' => x = .returned (.tuple #[.int .i64 (yrOf d), .int .i64 (moOf d : Nat)]) ∧ Ok w w') := fun X hX => c_same hX (mofR_any d X d0 d1 hy)
    have KS : Hid (∀ X, Ok w X → Calls Tryd.prog 9 #[.int .i64 (yrOf d), .int .i64 (moOf d : Nat)] X fun x w' => x = .returned (.tuple #[.int .i64 (mst (yrOf d) (moOf d - 1)), .int .i64 0]) ∧ Ok w w') := fun X hX => c_start hX _ _ (by unfold I64; omega) (by unfold I64; omega) (by rw [mV_in hy hm]; unfold mfst; congr 1; omega) (mE_in hy hm)
    have KE : Hid (∀ X, Ok w X → Calls Tryd.prog 10 #[.int .i64 (yrOf d), .int .i64 (moOf d : Nat)] X fun x w' => x = .returned (.tuple #[.int .i64 (mst (yrOf d) (moOf d) - 1), .int .i64 0]) ∧ Ok w w') := fun X hX => c_end hX _ _ (by unfold I64; omega) (by unfold I64; omega) (by rw [mV_in hy hm]; unfold mlst; rw [Int.toNat_natCast]) (mE_in hy hm)
    have s4 : d ≤ mst (yrOf d) (moOf d) - 1 := by omega
    rw [hy] at RY
    clear hy hm hd s3
    generalize mst (yrOf d) (moOf d) - 1 = E at *
    generalize mst (yrOf d) (moOf d - 1) = S at *
    generalize moOf d = M at *
    generalize yrOf d = Y at *
    go_enter Tryd.func4, Tryd.ntmps4
    go_wp2_with (first
      | (go_at_call 19; refine (KO.out _ (by assumption)).mono ?_; rintro e w' ⟨rfl, hk⟩)
      | (go_at_call 20; refine (RY.out _ (by assumption)).mono ?_; rintro e w' ⟨rfl, hk⟩)
      | (go_at_call 21; refine (RO.out _ (by assumption)).mono ?_; rintro e w' ⟨rfl, hk⟩)
      | (go_at_call 9; refine (KS.out _ (by assumption)).mono ?_; rintro e w' ⟨rfl, hk⟩)
      | (go_at_call 10; refine (KE.out _ (by assumption)).mono ?_; rintro e w' ⟨rfl, hk⟩)
      | (go_at_call 22; refine (mon_t _ _ _ _ _ _ (by rfl) (by rfl) (by rfl)).mono ?_; rintro e w' ⟨rfl, rfl⟩)
      | (go_at_call 13; refine (lives_t w _ (by assumption)).mono ?_; rintro e w' ⟨rfl, hk⟩))
    go_ret
    exact ⟨rfl, by assumption⟩

/-- Two numbers in an array of the law's. -/
theorem pair_new (w : World) (k l : Int) (W : World) (hW : W = w.alloc (.cells #[.int .i64 k, .int .i64 l] 42)) :
    W.cell? ⟨w.heap.size, 0, none⟩ = some (.int .i64 k) ∧ W.cell? ⟨w.heap.size, 1, none⟩ = some (.int .i64 l) ∧ Below w.heap.size w W := by
  subst hW
  refine ⟨?_, ?_, by go_grown⟩
  · rw [cell_of_row _ _ 0 _ _ (0, 0) (heap_alloc_new w _)]; rfl
  · rw [cell_of_row _ _ 1 _ _ (0, 0) (heap_alloc_new w _)]; rfl

set_option maxRecDepth 100000 in
set_option maxHeartbeats 8000000 in
theorem add_law (y m k l : Int) (w W : World) (y0 : -9223372036854775808 ≤ y) (y1 : y ≤ 9223372036854775807) (m0 : -9223372036854775808 ≤ m) (m1 : m ≤ 9223372036854775807) (k0 : -9223372036854775808 ≤ k) (k1 : k ≤ 9223372036854775807) (l0 : -9223372036854775808 ≤ l) (l1 : l ≤ 9223372036854775807) (h : Ok w W) :
    Calls Tryd.prog 5 #[.int .i64 y, .int .i64 m, .agg #[.int .i64 k, .int .i64 l]] W fun e w' => e = .returned (.bool true) ∧ Ok w w' := by
  have hy := i64_of y0 y1
  have hm := i64_of m0 m1
  have hk := i64_of k0 k1
  have hl := i64_of l0 l1
  go_enter Tryd.func5, Tryd.ntmps5
  go_upto_region 1 with fail
  obtain ⟨f0, f1, hb⟩ := pair_new W k l _ rfl
  have ho := h.step hb
  generalize (W.alloc (Obj.cells #[Value.int IntKind.i64 k, Value.int IntKind.i64 l] 42)) = W1 at *
  go_region_held3 (fun w' => w'.cell? ⟨W.heap.size, 0, none⟩ = some (.int .i64 k) ∧ w'.cell? ⟨W.heap.size, 1, none⟩ = some (.int .i64 l)) (go_keep) (fail)
  have ho' : Ok w W1.drew := ho.step (below_drewN (Below.refl _ _) 1)
  generalize W.heap.size = g at *
  clear h hb ho f0 f1
  by_cases hE : mE y m = 0
  · obtain ⟨ya, ma⟩ := mE_zero.1 hE
    obtain ⟨r0, r1⟩ := (yr_iff _).1 ya
    obtain ⟨s0, s1⟩ := (mo_iff _).1 ma
    obtain ⟨ad0, ad1, ad2⟩ := ad_spec y m k
    have RC : Hid (∀ X, Ok w X → Calls Tryd.prog 11 #[.int .i64 y, .int .i64 m] X fun x w' => x = .returned (.int .i64 0) ∧ Ok w w') := fun X hX => cr_chk hX y m hE
    have RA : Hid (∀ X, Ok w X → Calls Tryd.prog 23 #[.int .i64 y, .int .i64 m, .int .i64 k] X fun x w' => x = .returned (.tuple #[.int .i64 (addV y m k (adY y m k)), .int .i64 (addV y m k (adM y m k)), .bool (yr (adY y m k))]) ∧ Ok w w') := fun X hX => c_same hX (addR_any y m k X ⟨r0, r1⟩ ⟨s0, s1⟩ k0 k1)
    cases hz : yr (adY y m k) with
    | false =>
      have KA : Hid (∀ X, Ok w X → Calls Tryd.prog 17 #[.int .i64 y, .int .i64 m, .int .i64 k] X fun x w' => x = .returned (.tuple #[.int .i64 0, .int .i64 0, .int .i64 6]) ∧ Ok w w') := fun X hX => c_add hX y m hy hm k hk (if_neg (by rw [hz]; simp)) (if_neg (by rw [hz]; simp)) (by unfold aE; rw [if_pos hE, if_neg (by rw [hz]; decide)])
      have e1 : addV y m k (adY y m k) = 0 := if_neg (by rw [hz]; decide)
      have e2 : addV y m k (adM y m k) = 0 := if_neg (by rw [hz]; decide)
      rw [e1, e2, hz] at RA
      clear e1 e2 hz hE ya ma hy hm hk hl ad0 ad1 ad2
      go_wp2_with (first
        | (go_at_call 17; refine (KA.out _ (by assumption)).mono ?_; rintro e w' ⟨rfl, hk⟩)
        | (go_at_call 11; refine (RC.out _ (by assumption)).mono ?_; rintro e w' ⟨rfl, hk⟩)
        | (go_at_call 23; refine (RA.out _ (by assumption)).mono ?_; rintro e w' ⟨rfl, hk⟩)
        | (go_at_call 13; refine (lives_t w _ (by assumption)).mono ?_; rintro e w' ⟨rfl, hk⟩))
      go_ret
      exact ⟨rfl, by assumption⟩
    | true =>
      obtain ⟨z0, z1⟩ := (yr_iff _).1 hz
      have na : mo (adM y m k) = true := (mo_iff _).2 ⟨ad1, ad2⟩
      have hE2 := mE_in hz na
      have KA : Hid (∀ X a b c, Ok w X → a = y → b = m → c = k → Calls Tryd.prog 17 #[.int .i64 a, .int .i64 b, .int .i64 c] X fun x w' => x = .returned (.tuple #[.int .i64 (adY y m k), .int .i64 (adM y m k), .int .i64 0]) ∧ Ok w w') := fun X a b c hX ha hb hc => by rw [ha, hb, hc]; exact c_add hX y m hy hm k hk (if_pos ⟨hE, hz⟩) (if_pos ⟨hE, hz⟩) (by unfold aE; rw [if_pos hE, if_pos hz])
      have e1 : addV y m k (adY y m k) = adY y m k := if_pos hz
      have e2 : addV y m k (adM y m k) = adM y m k := if_pos hz
      rw [e1, e2, hz] at RA
      have hbk : 12 * (adY y m k - y) + (adM y m k - m) = k := by unfold ixI at ad0; omega
      have KB : Hid (∀ X, Ok w X → Calls Tryd.prog 24 #[.int .i64 y, .int .i64 m, .int .i64 (adY y m k), .int .i64 (adM y m k)] X fun x w' => x = .returned (.tuple #[.int .i64 k, .int .i64 0]) ∧ Ok w w') := fun X hX => c_between hX y m hy hm _ _ (by unfold I64; omega) (by unfold I64; omega) (by unfold bV; rw [if_pos ⟨hE, hE2⟩, hbk]) (by unfold bE; rw [if_pos hE, hE2])
      have hix : ixI (adY y m k) (adM y m k) l = ixI y m (k + l) := by unfold ixI at *; omega
      have hay : adY (adY y m k) (adM y m k) l = adY y m (k + l) := by unfold adY; rw [← hix]; rfl
      have ham : adM (adY y m k) (adM y m k) l = adM y m (k + l) := by unfold adM; rw [← hix]; rfl
      have hkb : -250000000000000000 ≤ k ∧ k ≤ 250000000000000000 := by omega
      obtain ⟨hkb0, hkb1⟩ := hkb
      have KD : Hid (∀ X a b c, Ok w X → a = adY y m k → b = adM y m k → c = l → Calls Tryd.prog 17 #[.int .i64 a, .int .i64 b, .int .i64 c] X fun x w' => x = .returned (.tuple #[.int .i64 (aV (adY y m k) (adM y m k) l (adY y m (k + l))), .int .i64 (aV (adY y m k) (adM y m k) l (adM y m (k + l))), .int .i64 (aE (adY y m k) (adM y m k) l)]) ∧ Ok w w') := fun X a b c hX ha hb hc => by rw [ha, hb, hc]; exact c_add hX _ _ (by unfold I64; omega) (by unfold I64; omega) l hl (by rw [hay]) (by rw [ham]) rfl
      have KF : Hid (I64 (k + l) → yr (adY y m (k + l)) = true → ∀ X a b c, Ok w X → a = y → b = m → c = k + l → Calls Tryd.prog 17 #[.int .i64 a, .int .i64 b, .int .i64 c] X fun x w' => x = .returned (.tuple #[.int .i64 (adY y m (k + l)), .int .i64 (adM y m (k + l)), .int .i64 0]) ∧ Ok w w') := fun hi hr X a b c hX ha hb hc => by rw [ha, hb, hc]; exact c_add hX y m hy hm (k + l) hi (if_pos ⟨hE, hr⟩) (if_pos ⟨hE, hr⟩) (by unfold aE; rw [if_pos hE, if_pos hr])
      have hD : (aE (adY y m k) (adM y m k) l = 6 ∧ True) ∨ (aE (adY y m k) (adM y m k) l = 0 ∧ yr (adY y m (k + l)) = true ∧ aV (adY y m k) (adM y m k) l (adY y m (k + l)) = adY y m (k + l) ∧ aV (adY y m k) (adM y m k) l (adM y m (k + l)) = adM y m (k + l)) := by
        cases hr : yr (adY y m (k + l))
        · left; exact ⟨by unfold aE; rw [if_pos hE2, hay, if_neg (by rw [hr]; decide)], trivial⟩
        · right
          have hr2 : yr (adY (adY y m k) (adM y m k) l) = true := by rw [hay]; exact hr
          exact ⟨by unfold aE; rw [if_pos hE2, if_pos hr2], rfl, if_pos ⟨hE2, hr2⟩, if_pos ⟨hE2, hr2⟩⟩
      clear e1 e2 hE ya ma hy hm hk hl ad0 hz na hE2 hbk hix hay ham
      generalize yr (adY y m (k + l)) = yf at *
      generalize aV (adY y m k) (adM y m k) l (adY y m (k + l)) = da at *
      generalize aV (adY y m k) (adM y m k) l (adM y m (k + l)) = db at *
      generalize aE (adY y m k) (adM y m k) l = de at *
      generalize adY y m (k + l) = fa at *
      generalize adM y m (k + l) = fb at *
      generalize adY y m k = z at *
      generalize adM y m k = n at *
      rcases hD with ⟨rfl, -⟩ | ⟨rfl, rfl, rfl, rfl⟩
      · clear KF
        go_wp2_with (first
          | (go_at_call 17; refine (KA.out _ _ _ _ (by assumption) (by exact rfl) (by exact rfl) (by exact rfl)).mono ?_; rintro e w' ⟨rfl, hk⟩)
          | (go_at_call 17; refine (KD.out _ _ _ _ (by assumption) (by exact rfl) (by exact rfl) (by exact rfl)).mono ?_; rintro e w' ⟨rfl, hk⟩)
          | (go_at_call 11; refine (RC.out _ (by assumption)).mono ?_; rintro e w' ⟨rfl, hk⟩)
          | (go_at_call 23; refine (RA.out _ (by assumption)).mono ?_; rintro e w' ⟨rfl, hk⟩)
          | (go_at_call 24; refine (KB.out _ (by assumption)).mono ?_; rintro e w' ⟨rfl, hk⟩)
          | (go_at_call 18; refine (num_t _ _ _ _ (by rfl) (by rfl)).mono ?_; rintro e w' ⟨rfl, rfl⟩)
          | (go_at_call 22; refine (mon_t _ _ _ _ _ _ (by rfl) (by rfl) (by rfl)).mono ?_; rintro e w' ⟨rfl, rfl⟩)
          | (go_at_call 13; refine (lives_t w _ (by assumption)).mono ?_; rintro e w' ⟨rfl, hk⟩))
        go_ret
        exact ⟨rfl, by assumption⟩
      · by_cases hl0 : 0 < l
        · have hl3 : ¬ l < 0 := by omega
          by_cases hov : 9223372036854775807 - l < k
          · clear KF
            go_wp2_with (first
              | (go_at_call 17; refine (KA.out _ _ _ _ (by assumption) (by exact rfl) (by exact rfl) (by exact rfl)).mono ?_; rintro e w' ⟨rfl, hk⟩)
              | (go_at_call 17; refine (KD.out _ _ _ _ (by assumption) (by exact rfl) (by exact rfl) (by exact rfl)).mono ?_; rintro e w' ⟨rfl, hk⟩)
              | (go_at_call 11; refine (RC.out _ (by assumption)).mono ?_; rintro e w' ⟨rfl, hk⟩)
              | (go_at_call 23; refine (RA.out _ (by assumption)).mono ?_; rintro e w' ⟨rfl, hk⟩)
              | (go_at_call 24; refine (KB.out _ (by assumption)).mono ?_; rintro e w' ⟨rfl, hk⟩)
              | (go_at_call 18; refine (num_t _ _ _ _ (by rfl) (by rfl)).mono ?_; rintro e w' ⟨rfl, rfl⟩)
              | (go_at_call 22; refine (mon_t _ _ _ _ _ _ (by rfl) (by rfl) (by rfl)).mono ?_; rintro e w' ⟨rfl, rfl⟩)
              | (go_at_call 13; refine (lives_t w _ (by assumption)).mono ?_; rintro e w' ⟨rfl, hk⟩))
            go_ret
            exact ⟨rfl, by assumption⟩
          · have hs0 : -9223372036854775808 ≤ k + l := by omega
            have hs1 : k + l ≤ 9223372036854775807 := by omega
            have KF' := KF.out ⟨hs0, hs1⟩ rfl
            have KG := Lib.hid KF'
            clear KF' KF
            go_wp2_with (first
              | (go_at_call 17; refine (KA.out _ _ _ _ (by assumption) (by exact rfl) (by exact rfl) (by exact rfl)).mono ?_; rintro e w' ⟨rfl, hk⟩)
              | (go_at_call 17; refine (KG.out _ _ _ _ (by assumption) (by exact rfl) (by exact rfl) (by exact rfl)).mono ?_; rintro e w' ⟨rfl, hk⟩)
              | (go_at_call 17; refine (KD.out _ _ _ _ (by assumption) (by exact rfl) (by exact rfl) (by exact rfl)).mono ?_; rintro e w' ⟨rfl, hk⟩)
              | (go_at_call 11; refine (RC.out _ (by assumption)).mono ?_; rintro e w' ⟨rfl, hk⟩)
              | (go_at_call 23; refine (RA.out _ (by assumption)).mono ?_; rintro e w' ⟨rfl, hk⟩)
              | (go_at_call 24; refine (KB.out _ (by assumption)).mono ?_; rintro e w' ⟨rfl, hk⟩)
              | (go_at_call 18; refine (num_t _ _ _ _ (by rfl) (by rfl)).mono ?_; rintro e w' ⟨rfl, rfl⟩)
              | (go_at_call 22; refine (mon_t _ _ _ _ _ _ (by rfl) (by rfl) (by rfl)).mono ?_; rintro e w' ⟨rfl, rfl⟩)
              | (go_at_call 13; refine (lives_t w _ (by assumption)).mono ?_; rintro e w' ⟨rfl, hk⟩))
            go_ret
            exact ⟨rfl, by assumption⟩
        · by_cases hl1 : l < 0
          · by_cases hov : k < -9223372036854775808 - l
            · clear KF
              go_wp2_with (first
                | (go_at_call 17; refine (KA.out _ _ _ _ (by assumption) (by exact rfl) (by exact rfl) (by exact rfl)).mono ?_; rintro e w' ⟨rfl, hk⟩)
                | (go_at_call 17; refine (KD.out _ _ _ _ (by assumption) (by exact rfl) (by exact rfl) (by exact rfl)).mono ?_; rintro e w' ⟨rfl, hk⟩)
                | (go_at_call 11; refine (RC.out _ (by assumption)).mono ?_; rintro e w' ⟨rfl, hk⟩)
                | (go_at_call 23; refine (RA.out _ (by assumption)).mono ?_; rintro e w' ⟨rfl, hk⟩)
                | (go_at_call 24; refine (KB.out _ (by assumption)).mono ?_; rintro e w' ⟨rfl, hk⟩)
                | (go_at_call 18; refine (num_t _ _ _ _ (by rfl) (by rfl)).mono ?_; rintro e w' ⟨rfl, rfl⟩)
                | (go_at_call 22; refine (mon_t _ _ _ _ _ _ (by rfl) (by rfl) (by rfl)).mono ?_; rintro e w' ⟨rfl, rfl⟩)
                | (go_at_call 13; refine (lives_t w _ (by assumption)).mono ?_; rintro e w' ⟨rfl, hk⟩))
              go_ret
              exact ⟨rfl, by assumption⟩
            · have hs0 : -9223372036854775808 ≤ k + l := by omega
              have hs1 : k + l ≤ 9223372036854775807 := by omega
              have KF' := KF.out ⟨hs0, hs1⟩ rfl
              have KG := Lib.hid KF'
              clear KF' KF
              go_wp2_with (first
                | (go_at_call 17; refine (KA.out _ _ _ _ (by assumption) (by exact rfl) (by exact rfl) (by exact rfl)).mono ?_; rintro e w' ⟨rfl, hk⟩)
                | (go_at_call 17; refine (KG.out _ _ _ _ (by assumption) (by exact rfl) (by exact rfl) (by exact rfl)).mono ?_; rintro e w' ⟨rfl, hk⟩)
                | (go_at_call 17; refine (KD.out _ _ _ _ (by assumption) (by exact rfl) (by exact rfl) (by exact rfl)).mono ?_; rintro e w' ⟨rfl, hk⟩)
                | (go_at_call 11; refine (RC.out _ (by assumption)).mono ?_; rintro e w' ⟨rfl, hk⟩)
                | (go_at_call 23; refine (RA.out _ (by assumption)).mono ?_; rintro e w' ⟨rfl, hk⟩)
                | (go_at_call 24; refine (KB.out _ (by assumption)).mono ?_; rintro e w' ⟨rfl, hk⟩)
                | (go_at_call 18; refine (num_t _ _ _ _ (by rfl) (by rfl)).mono ?_; rintro e w' ⟨rfl, rfl⟩)
                | (go_at_call 22; refine (mon_t _ _ _ _ _ _ (by rfl) (by rfl) (by rfl)).mono ?_; rintro e w' ⟨rfl, rfl⟩)
                | (go_at_call 13; refine (lives_t w _ (by assumption)).mono ?_; rintro e w' ⟨rfl, hk⟩))
              go_ret
              exact ⟨rfl, by assumption⟩
          · have hs0 : -9223372036854775808 ≤ k + l := by omega
            have hs1 : k + l ≤ 9223372036854775807 := by omega
            have KF' := KF.out ⟨hs0, hs1⟩ rfl
            have KG := Lib.hid KF'
            clear KF' KF
            go_wp2_with (first
              | (go_at_call 17; refine (KA.out _ _ _ _ (by assumption) (by exact rfl) (by exact rfl) (by exact rfl)).mono ?_; rintro e w' ⟨rfl, hk⟩)
              | (go_at_call 17; refine (KG.out _ _ _ _ (by assumption) (by exact rfl) (by exact rfl) (by exact rfl)).mono ?_; rintro e w' ⟨rfl, hk⟩)
              | (go_at_call 17; refine (KD.out _ _ _ _ (by assumption) (by exact rfl) (by exact rfl) (by exact rfl)).mono ?_; rintro e w' ⟨rfl, hk⟩)
              | (go_at_call 11; refine (RC.out _ (by assumption)).mono ?_; rintro e w' ⟨rfl, hk⟩)
              | (go_at_call 23; refine (RA.out _ (by assumption)).mono ?_; rintro e w' ⟨rfl, hk⟩)
              | (go_at_call 24; refine (KB.out _ (by assumption)).mono ?_; rintro e w' ⟨rfl, hk⟩)
              | (go_at_call 18; refine (num_t _ _ _ _ (by rfl) (by rfl)).mono ?_; rintro e w' ⟨rfl, rfl⟩)
              | (go_at_call 22; refine (mon_t _ _ _ _ _ _ (by rfl) (by rfl) (by rfl)).mono ?_; rintro e w' ⟨rfl, rfl⟩)
              | (go_at_call 13; refine (lives_t w _ (by assumption)).mono ?_; rintro e w' ⟨rfl, hk⟩))
            go_ret
            exact ⟨rfl, by assumption⟩
  · have KA : Hid (∀ X, Ok w X → Calls Tryd.prog 17 #[.int .i64 y, .int .i64 m, .int .i64 k] X fun x w' => x = .returned (.tuple #[.int .i64 0, .int .i64 0, .int .i64 (mE y m)]) ∧ Ok w w') := fun X hX => c_add hX y m hy hm k hk (if_neg fun hh => hE hh.1) (if_neg fun hh => hE hh.1) (if_neg hE)
    have RC : Hid (∀ X, Ok w X → Calls Tryd.prog 11 #[.int .i64 y, .int .i64 m] X fun x w' => x = .returned (.int .i64 (mE y m)) ∧ Ok w w') := fun X hX => cr_chk hX y m rfl
    have g1 : (mE y m != 0) = true := by rw [bne_iff_ne]; exact hE
    obtain ⟨e0, e1⟩ := mE_bd y m
    clear hE hy hm hk hl
    generalize mE y m = E at *
    go_wp2_with (first
      | (go_at_call 17; refine (KA.out _ (by assumption)).mono ?_; rintro e w' ⟨rfl, hk⟩)
      | (go_at_call 11; refine (RC.out _ (by assumption)).mono ?_; rintro e w' ⟨rfl, hk⟩)
      | (go_at_call 13; refine (lives_t w _ (by assumption)).mono ?_; rintro e w' ⟨rfl, hk⟩))
    go_ret
    exact ⟨rfl, by assumption⟩
end Go.Proofs.YtlcilodpelmccaaDoor.mon
