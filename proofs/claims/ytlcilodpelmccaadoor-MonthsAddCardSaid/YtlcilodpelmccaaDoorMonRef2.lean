/- The reference of months (circaref05): Add. -/
import Derived.Test.YtlcilodpelmccaaDoorMonRef
namespace Go.Proofs.YtlcilodpelmccaaDoor
open Go.RowKit

theorem ret_3 {k k' : IntKind} {a b c d : Int} {x y : Bool} (h : a = b) (h' : c = d) (h'' : x = y) : Ending.returned (.tuple #[.int k a, .int k' c, .bool x]) = .returned (.tuple #[.int k b, .int k' d, .bool y]) := by rw [h, h', h'']
def addV (y m k v : Int) : Int := if yr (adY y m k) = true then v else 0

set_option maxHeartbeats 1600000 in
theorem addR_any (y m k : Int) (w : World) (hy : -10000000000000000 ≤ y ∧ y ≤ 10000000000000000) (hm : 1 ≤ m ∧ m ≤ 12) (h0 : -9223372036854775808 ≤ k) (h1 : k ≤ 9223372036854775807) :
    Calls Tryd.prog 23 #[.int .i64 y, .int .i64 m, .int .i64 k] w fun e w' => e = .returned (.tuple #[.int .i64 (addV y m k (adY y m k)), .int .i64 (addV y m k (adM y m k)), .bool (yr (adY y m k))]) ∧ w = w' := by
  obtain ⟨t1, -, -, t4, t5⟩ := tdm k 12 (by omega)
  obtain ⟨y0, y1⟩ := hy
  obtain ⟨m0, m1⟩ := hm
  obtain ⟨q, hq⟩ : ∃ q, k.tdiv 12 = q := ⟨_, rfl⟩
  obtain ⟨r, hr⟩ : ∃ r, k.tmod 12 = r := ⟨_, rfl⟩
  rw [hq, hr] at t1
  rw [hr] at t4 t5
  have hqb : -768614336404564651 ≤ q ∧ q ≤ 768614336404564651 := by omega
  obtain ⟨q0, q1⟩ := hqb
  have HX : Hid (12 * (y + q) + (m - 1) + r = ixI y m k) := by show _ = _; unfold ixI; omega
  obtain ⟨I, hI⟩ : ∃ I, ixI y m k = I := ⟨_, rfl⟩
  have HI := Lib.hid hI
  have HIB : Hid (-9400000000000000000 ≤ I ∧ I ≤ 9400000000000000000) := by
    show _ ∧ _
    rw [← hI]; unfold ixI; omega
  have HR : Hid (∀ n z : Int, 1 ≤ n → n ≤ 12 → 12 * z + (n - 1) = I → adY y m k = z ∧ adM y m k = n) := fun n z h1 h2 h3 => ad_eq (by rw [h3, HI.out]) h1 h2
  have KI : Hid (∀ z w, Calls Tryd.prog 28 #[.int .i64 z] w fun e w' => e = .returned (.bool (yr z)) ∧ w = w') := fun z w => isR_any z w
  clear t1 hI
  go_enter Tryd.func23, Tryd.ntmps23
  go_wp2
  go_loop [1, 9, 10] (fun mv zv lv => ∃ (n z l : Int), 1 ≤ n ∧ n ≤ 12 ∧ -12 < l ∧ l < 12 ∧ mv = .int .i64 n ∧ zv = .int .i64 z ∧ lv = .int .i64 l ∧ Hid (12 * z + (n - 1) + l = I)) (fun _ _ lv => (intOf lv).toNat)
  case atStart => exact ⟨m, y + q, r, m0, m1, t4, t5, rfl, rfl, rfl, by show _ = _; rw [HX.out, HI.out]⟩
  case round =>
    obtain ⟨n, z, l, n0, n1, l0, l1, rfl, rfl, rfl, hinv⟩ := hrel
    have hb := hinv.out
    obtain ⟨i0, i1⟩ := HIB.out
    have z0 : -800000000000000000 ≤ z := by omega
    have z1 : z ≤ 800000000000000000 := by omega
    clear i0 i1 t4 t5 m0 m1 q0 q1 hq hr HX
    by_cases hl : 0 < l
    · by_cases hn : n = 12
      · subst hn
        have HN : Hid (12 * (z + 1) + ((1 : Int) - 1) + (l - 1) = I) := by show _ = _; omega
        clear hb hinv
        go_wp2
        go_round
        case rel => exact ⟨1, z + 1, l - 1, by omega, by omega, by omega, by omega, rfl, rfl, rfl, HN⟩
        case measure => simp [intOf]; omega
      · have hn2 : ¬ 12 < n + 1 := by omega
        have hn3 : n < 12 := by omega
        have HN : Hid (12 * z + (n + 1 - 1) + (l - 1) = I) := by show _ = _; omega
        clear hb hinv hn
        go_wp2
        go_round
        case rel => exact ⟨n + 1, z, l - 1, by omega, by omega, by omega, by omega, rfl, rfl, rfl, HN⟩
        case measure => simp [intOf]; omega
    · have hl2 : l ≤ 0 := by omega
      clear hb hl
      go_wp2
      go_loop [1, 9, 10] (fun mv zv lv => ∃ (n z l : Int), 1 ≤ n ∧ n ≤ 12 ∧ -12 < l ∧ l ≤ 0 ∧ mv = .int .i64 n ∧ zv = .int .i64 z ∧ lv = .int .i64 l ∧ Hid (12 * z + (n - 1) + l = I)) (fun _ _ lv => (-(intOf lv)).toNat)
      case atStart => exact ⟨n, z, l, n0, n1, l0, hl2, rfl, rfl, rfl, hinv⟩
      case round =>
        clear n0 n1 l0 l1 hinv z0 z1 hl2
        obtain ⟨n, z, l, n0, n1, l0, l1, rfl, rfl, rfl, hinv⟩ := hrel
        have hb := hinv.out
        obtain ⟨i0, i1⟩ := HIB.out
        have z0 : -800000000000000000 ≤ z := by omega
        have z1 : z ≤ 800000000000000000 := by omega
        clear i0 i1
        by_cases hl : l < 0
        · by_cases hn : n = 1
          · subst hn
            have HN : Hid (12 * (z - 1) + ((12 : Int) - 1) + (l + 1) = I) := by show _ = _; omega
            clear hb hinv
            go_wp2
            go_round
            case rel => exact ⟨12, z - 1, l + 1, by omega, by omega, by omega, by omega, rfl, rfl, rfl, HN⟩
            case measure => simp [intOf]; omega
          · have hn2 : ¬ n - 1 < 1 := by omega
            have hn3 : 1 < n := by omega
            have HN : Hid (12 * z + (n - 1 - 1) + (l + 1) = I) := by show _ = _; omega
            clear hb hinv hn
            go_wp2
            go_round
            case rel => exact ⟨n - 1, z, l + 1, by omega, by omega, by omega, by omega, rfl, rfl, rfl, HN⟩
            case measure => simp [intOf]; omega
        · obtain rfl : l = 0 := by omega
          obtain ⟨e1, e2⟩ := HR.out n z n0 n1 (by omega)
          have HE : Hid (adY y m k = z ∧ adM y m k = n) := ⟨e1, e2⟩
          have hK := KI.out z w
          clear e1 e2 hb hinv hl l0 l1
          cases hyr : yr z
          · rw [hyr] at hK
            have HK := Lib.hid hK
            have HV : Hid (addV y m k (adY y m k) = 0 ∧ addV y m k (adM y m k) = 0 ∧ yr (adY y m k) = false) := by
              have : yr (adY y m k) = false := by rw [HE.out.1]; exact hyr
              unfold addV; rw [if_neg (by rw [this]; decide), if_neg (by rw [this]; decide)]; exact ⟨rfl, rfl, this⟩
            clear hK hyr
            go_wp2_with (go_at_call 28; refine HK.out.mono ?_; rintro e w' ⟨rfl, rfl⟩)
            go_ret3
            exact ⟨ret_3 HV.out.1.symm HV.out.2.1.symm HV.out.2.2.symm, rfl⟩
          · rw [hyr] at hK
            have HK := Lib.hid hK
            have HV : Hid (addV y m k (adY y m k) = z ∧ addV y m k (adM y m k) = n ∧ yr (adY y m k) = true) := by
              have : yr (adY y m k) = true := by rw [HE.out.1]; exact hyr
              unfold addV; rw [if_pos this, if_pos this]; exact ⟨HE.out.1, HE.out.2, this⟩
            clear hK hyr
            go_wp2_with (go_at_call 28; refine HK.out.mono ?_; rintro e w' ⟨rfl, rfl⟩)
            go_ret3
            exact ⟨ret_3 HV.out.1.symm HV.out.2.1.symm HV.out.2.2.symm, rfl⟩
end Go.Proofs.YtlcilodpelmccaaDoor
