/- The law's test of a sum, and the law IntsDivs: it returns true for every input. -/
import Derived.Test.YtimahbomndffaaaDoorMul
namespace Go.Proofs.YtimahbomndffaaaDoor
open Go.RowKit

set_option maxHeartbeats 800000 in
theorem is_t (v : Value) (z : Int) (w : World) (hv : IsN w v z) (hz : z.natAbs < lim) :
    Calls Tryd.prog 13 #[.int .i64 (fitV z), .int .i64 (fitE z), v] w fun e w' => e = .returned (.bool true) ∧ Below w.heap.size w w' := by
  obtain ⟨b1, A1, m1, c1, rfl⟩ := id hv.form
  have HI : Hid (∀ X, Below w.heap.size w X → Calls Tryd.prog 34 #[.agg #[.bool b1, .slice A1 m1 c1]] X fun e w' => e = .returned (.tuple #[.int .i64 (fitV z), .bool (fitsB z)]) ∧ Below X.heap.size X w') :=
    fun X hX => int_any _ z X (hv.below hX) hz
  clear hv
  by_cases hf : -9223372036854775808 ≤ z ∧ z ≤ 9223372036854775807
  · have e1 : fitE z = 0 := fitE_in hf.1 hf.2
    have e2 : fitsB z = true := by unfold fitsB; simp; exact hf
    rw [e1]
    rw [e2] at HI
    generalize fitV z = n at *
    clear hf e1 e2
    go_enter Tryd.func13, Tryd.ntmps13
    go_wp2_with (go_at_call 34; refine (HI.out _ (by go_grown)).mono ?_; rintro e w1 ⟨rfl, hb⟩)
    go_ret
    refine ⟨rfl, ?_⟩
    exact ((Below.refl _ _).alloc (Nat.le_refl _) _).trans (hb.mono (by simp))
  · have e0 : fitV z = 0 := fitV_out (by omega)
    have e1 : fitE z = 15 := fitE_out (by omega)
    have e2 : fitsB z = false := by unfold fitsB; simp; omega
    rw [e0, e1]
    rw [e0, e2] at HI
    clear hf e0 e1 e2
    go_enter Tryd.func13, Tryd.ntmps13
    go_wp2_with (go_at_call 34; refine (HI.out _ (by go_grown)).mono ?_; rintro e w1 ⟨rfl, hb⟩)
    go_ret
    refine ⟨rfl, ?_⟩
    exact ((Below.refl _ _).alloc (Nat.le_refl _) _).trans (hb.mono (by simp))

/-- The reference's calls, with what the walks carry from world to world. -/
theorem c_of {w W : World} (h : Ok w W) (n : Int) (h0 : -9223372036854775808 ≤ n) (h1 : n ≤ 9223372036854775807) :
    Calls Tryd.prog 9 #[.int .i64 n] W fun e w' => ∃ u, e = .returned u ∧ IsN w' u n ∧ Below W.heap.size W w' ∧ Ok w w' :=
  (of_any n W h0 h1).mono fun _ _ ⟨u, a, b, c⟩ => ⟨u, a, b, c, h.step c⟩
theorem c_mul {w W : World} (h : Ok w W) {v u : Value} {x y : Int} (hv : IsN W v x) (hu : IsN W u y) (hx : x.natAbs < lim) (hy : y.natAbs < lim) :
    Calls Tryd.prog 16 #[v, u] W fun e w' => ∃ r, e = .returned r ∧ IsN w' r (x * y) ∧ Below W.heap.size W w' ∧ Ok w w' :=
  (mulN_any v u x y W hv hu hx hy).mono fun _ _ ⟨u, a, b, c⟩ => ⟨u, a, b, c, h.step c⟩
theorem c_add {w W : World} (h : Ok w W) {v u : Value} {x y : Int} (hv : IsN W v x) (hu : IsN W u y) (hx : x.natAbs < lim) (hy : y.natAbs < lim) :
    Calls Tryd.prog 14 #[v, u] W fun e w' => ∃ r, e = .returned r ∧ IsN w' r (x + y) ∧ Below W.heap.size W w' ∧ Ok w w' :=
  (addN_any v u x y W hv hu hx hy).mono fun _ _ ⟨u, a, b, c⟩ => ⟨u, a, b, c, h.step c⟩
theorem c_cmp {w W : World} (h : Ok w W) {v u : Value} {x y : Int} (hv : IsN W v x) (hu : IsN W u y) (hx : x.natAbs < lim) (hy : y.natAbs < lim) :
    Calls Tryd.prog 22 #[v, u] W fun e w' => e = .returned (.int .i64 (cmpI x y)) ∧ Below W.heap.size W w' ∧ Ok w w' :=
  (cmp_any v u x y W hv hu hx hy).mono fun _ _ ⟨a, c⟩ => ⟨a, c, h.step c⟩
theorem lim_int {n : Int} (h0 : -9223372036854775808 ≤ n) (h1 : n ≤ 9223372036854775807) : n.natAbs < lim := by have := lim_small; omega
theorem lim_mul {x y : Int} (hx : x.natAbs ≤ 9223372036854775808) (hy : y.natAbs ≤ 9223372036854775808) : (x * y).natAbs ≤ 9223372036854775808 * 9223372036854775808 := by
  rw [Int.natAbs_mul]; exact Nat.mul_le_mul hx hy
theorem lim_big : 9223372036854775808 * 9223372036854775808 + 9223372036854775808 < lim := by unfold lim; decide +kernel

set_option maxRecDepth 100000 in
set_option maxHeartbeats 8000000 in
theorem divs_gen (a b c : Int) (w W : World) (ha : -9223372036854775808 ≤ a) (ha' : a ≤ 9223372036854775807) (hb : -9223372036854775808 ≤ b) (hb' : b ≤ 9223372036854775807) (hc : -9223372036854775808 ≤ c) (hc' : c ≤ 9223372036854775807)
    (hb0 : b ≠ 0) (hm : ¬ (a = -9223372036854775808 ∧ b = -1)) (h : Ok w W) :
    Calls Tryd.prog 4 #[.int .i64 a, .int .i64 b, .int .i64 c] W fun e w' => e = .returned (.bool true) ∧ Ok w w' := by
  have HD : Hid (∀ X, Calls Tryd.prog 19 #[.int .i64 a, .int .i64 b] X fun e w' => e = .returned (.tuple #[.int .i64 (a.fdiv b), .int .i64 0]) ∧ X = w') := fun X => div_any a b X ha ha' hb0 hm
  have HM : Hid (∀ X, Calls Tryd.prog 20 #[.int .i64 a, .int .i64 b] X fun e w' => e = .returned (.tuple #[.int .i64 (a.fmod b), .int .i64 0]) ∧ X = w') := fun X => mod_any a b X hb0 hb hb'
  have hsg := fmod_sign (a := a) hb0
  have hbd := fmod_bd (a := a) hb0
  have heq := Int.mul_fdiv_add_fmod a b
  have hqb : -9223372036854775808 ≤ a.fdiv b ∧ a.fdiv b ≤ 9223372036854775807 := by
    by_cases hr : a.tmod b ≠ 0 ∧ ¬ (a.tmod b < 0 ↔ b < 0)
    · have := fdiv_lo hb0 ha ha' hr
      have := tdiv_bd ha ha' hm
      rw [fdiv_up hb0 hr]; omega
    · have := tdiv_bd ha ha' hm
      rw [fdiv_eq hr]; omega
  have hmono : ∀ p, p = c.fdiv b → 0 < b → (a ≤ c → a.fdiv b ≤ p) ∧ (c ≤ a → p ≤ a.fdiv b) := fun p hp h0 => by rw [hp]; exact ⟨fun h => fdiv_mono h0 h, fun h => fdiv_mono h0 h⟩
  have HP := Lib.hid hmono
  generalize a.fdiv b = q at *
  generalize a.fmod b = m at *
  have HE : Hid (q * b + m = a) := by show _ = _; rw [Int.mul_comm]; exact heq
  clear hmono heq
  have tb0 : (b == 0) = false := by rw [beq_eq_false_iff_ne]; exact hb0
  have t5 : (a == -9223372036854775808) = false ∨ ((a == -9223372036854775808) = true ∧ (b == -1) = false) := by
    by_cases h : a = -9223372036854775808
    · exact .inr ⟨by rw [beq_iff_eq]; exact h, by rw [beq_eq_false_iff_ne]; intro h'; exact hm ⟨h, h'⟩⟩
    · exact .inl (by rw [beq_eq_false_iff_ne]; exact h)
  have HB0 := Lib.hid hb0
  clear hm hb0
  have hW := h
  go_enter Tryd.func4, Tryd.ntmps4
  go_upto_if 26 with (first
    | (go_at_call 19; refine (HD.out _).mono ?_; rintro e w' ⟨rfl, rfl⟩)
    | (go_at_call 20; refine (HM.out _).mono ?_; rintro e w' ⟨rfl, rfl⟩))
  go_upto_region 5 with fail
  go_cut [43] (fun s wx => s = .bool false ∧ wx = W)
  case first =>
    rcases t5 with t5 | ⟨t5, t6⟩
    all_goals
      go_wp2_with fail
      go_meet
      exact ⟨rfl, rfl⟩
  case rest =>
    obtain ⟨rfl, rfl⟩ := hcut
    clear t5
    go_upto_region 7 with fail
    go_cut [89] (fun s wx => s = .bool false ∧ wx = wc)
    case first =>
      have h4 : (m = 0 ∧ 0 < b) ∨ (m = 0 ∧ b < 0) ∨ (0 < m ∧ 0 < b) ∨ (m < 0 ∧ b < 0) := by
        by_cases hm : m = 0
        · by_cases hb0 : 0 < b
          · exact .inl ⟨hm, hb0⟩
          · have := HB0.out; exact .inr (.inl ⟨hm, by omega⟩)
        · have := hsg hm; have := HB0.out; omega
      clear hsg HE HP hqb
      rcases h4 with ⟨rfl, h2⟩ | ⟨rfl, h2⟩ | ⟨h1, h2⟩ | ⟨h1, h2⟩
      · go_wp2_with fail
        go_meet
        exact ⟨congrArg Value.bool (by first | rfl | (simp; omega)), rfl⟩
      · go_wp2_with fail
        go_meet
        exact ⟨congrArg Value.bool (by first | rfl | (simp; omega)), rfl⟩
      · have t1 : (m != 0) = true := by rw [bne_iff_ne]; omega
        have t2 : m < b := by omega
        go_wp2_with fail
        go_meet
        exact ⟨congrArg Value.bool (by first | rfl | (simp; omega)), rfl⟩
      · have t1 : (m != 0) = true := by rw [bne_iff_ne]; omega
        have t2 : b < m := by omega
        go_wp2_with fail
        go_meet
        exact ⟨congrArg Value.bool (by first | rfl | (simp; omega)), rfl⟩
    case rest =>
      obtain ⟨rfl, rfl⟩ := hcut
      have hL := lim_big
      have hmb : -9223372036854775808 ≤ m ∧ m ≤ 9223372036854775807 := by omega
      have hqa : q.natAbs ≤ 9223372036854775808 := by omega
      have hba : b.natAbs ≤ 9223372036854775808 := by omega
      have hqbm := lim_mul hqa hba
      have hc1 : cmpI (q * b + m) a = 0 := by rw [HE.out]; unfold cmpI; rw [if_neg (by omega), if_neg (by omega)]
      have K1 : q.natAbs < lim := lim_int hqb.1 hqb.2
      have K2 : b.natAbs < lim := lim_int hb hb'
      have K3 : m.natAbs < lim := lim_int hmb.1 hmb.2
      have K4 : a.natAbs < lim := lim_int ha ha'
      have K5 : (q * b).natAbs < lim := by omega
      have K6 : (q * b + m).natAbs < lim := by rw [HE.out]; exact K4
      have HC := Lib.hid hc1
      have KK : Hid (q.natAbs < lim ∧ b.natAbs < lim ∧ m.natAbs < lim ∧ a.natAbs < lim ∧ (q * b).natAbs < lim ∧ (q * b + m).natAbs < lim) := ⟨K1, K2, K3, K4, K5, K6⟩
      obtain ⟨hq0, hq1⟩ := hqb
      obtain ⟨hm0, hm1⟩ := hmb
      clear hL hqa hba hqbm hc1 K1 K2 K3 K4 K5 K6 hsg hbd
      go_wp2_with fail
      refine (c_of h q hq0 hq1).mono ?_
      rintro e w1 ⟨u1, rfl, i1, d1, o1⟩
      go_wp2_with fail
      refine (c_of o1 b hb hb').mono ?_
      rintro e w2 ⟨u2, rfl, i2, d2, o2⟩
      go_wp2_with fail
      refine (c_mul o2 (i1.below d2) i2 KK.out.1 KK.out.2.1).mono ?_
      rintro e w3 ⟨u3, rfl, i3, d3, o3⟩
      go_wp2_with fail
      refine (c_of o3 m hm0 hm1).mono ?_
      rintro e w4 ⟨u4, rfl, i4, d4, o4⟩
      go_wp2_with fail
      refine (c_add o4 (i3.below d4) i4 KK.out.2.2.2.2.1 KK.out.2.2.1).mono ?_
      rintro e w5 ⟨u5, rfl, i5, d5, o5⟩
      go_wp2_with fail
      refine (c_of o5 a ha ha').mono ?_
      rintro e w6 ⟨u6, rfl, i6, d6, o6⟩
      go_wp2_with fail
      refine (c_cmp o6 (i5.below d6) i6 KK.out.2.2.2.2.2 KK.out.2.2.2.1).mono ?_
      rw [HC.out]
      rintro e w7 ⟨rfl, d7, o7⟩
      clear i1 i2 i3 i4 i5 i6 d1 d2 d3 d4 d5 d6 o1 o2 o3 o4 o5 o6 h hW d7
      by_cases hs : c = -9223372036854775808 ∧ b = -1
      · obtain ⟨rfl, rfl⟩ := hs
        go_wp2_with (first
          | (go_at_call 19; refine (div_over _).mono ?_; rintro e w' ⟨rfl, rfl⟩)
          | (go_at_call 18; refine (lives_t w _ o7).mono ?_; rintro e w' ⟨rfl, hk⟩))
        go_ret
        exact ⟨rfl, hk⟩
      · have HD2 : Hid (∀ X, Calls Tryd.prog 19 #[.int .i64 c, .int .i64 b] X fun e w' => e = .returned (.tuple #[.int .i64 (c.fdiv b), .int .i64 0]) ∧ X = w') := fun X => div_any c b X hc hc' HB0.out hs
        have HP2 := HP.out _ rfl
        generalize c.fdiv b = p at *
        clear hs HE HP HC KK
        by_cases hb2 : 0 < b
        · obtain ⟨x1, x2⟩ := HP2 hb2
          by_cases hac : a ≤ c
          · have x3 := x1 hac
            by_cases hca : c ≤ a
            · have x4 := x2 hca
              clear HP2 x1 x2
              go_wp2_with (first
                | (go_at_call 19; refine (HD2.out _).mono ?_; rintro e w' ⟨rfl, rfl⟩)
                | (go_at_call 18; refine (lives_t w _ o7).mono ?_; rintro e w' ⟨rfl, hk⟩))
              go_ret
              exact ⟨rfl, hk⟩
            · clear HP2 x1 x2
              go_wp2_with (first
                | (go_at_call 19; refine (HD2.out _).mono ?_; rintro e w' ⟨rfl, rfl⟩)
                | (go_at_call 18; refine (lives_t w _ o7).mono ?_; rintro e w' ⟨rfl, hk⟩))
              go_ret
              exact ⟨rfl, hk⟩
          · have x4 := x2 (by omega)
            clear HP2 x1 x2
            go_wp2_with (first
              | (go_at_call 19; refine (HD2.out _).mono ?_; rintro e w' ⟨rfl, rfl⟩)
              | (go_at_call 18; refine (lives_t w _ o7).mono ?_; rintro e w' ⟨rfl, hk⟩))
            go_ret
            exact ⟨rfl, hk⟩
        · clear HP2
          go_wp2_with (first
            | (go_at_call 19; refine (HD2.out _).mono ?_; rintro e w' ⟨rfl, rfl⟩)
            | (go_at_call 18; refine (lives_t w _ o7).mono ?_; rintro e w' ⟨rfl, hk⟩))
          go_ret
          exact ⟨rfl, hk⟩

set_option maxRecDepth 100000 in
set_option maxHeartbeats 4000000 in
theorem divs_law (a b c : Int) (w W : World) (ha : -9223372036854775808 ≤ a) (ha' : a ≤ 9223372036854775807) (hb : -9223372036854775808 ≤ b) (hb' : b ≤ 9223372036854775807) (hc : -9223372036854775808 ≤ c) (hc' : c ≤ 9223372036854775807) (h : Ok w W) :
    Calls Tryd.prog 4 #[.int .i64 a, .int .i64 b, .int .i64 c] W fun e w' => e = .returned (.bool true) ∧ Ok w w' := by
  by_cases hb0 : b = 0
  · subst hb0
    go_enter Tryd.func4, Tryd.ntmps4
    go_wp2_with (first
      | (go_at_call 19; refine (div_nil _ _).mono ?_; rintro e w' ⟨rfl, rfl⟩)
      | (go_at_call 20; refine (mod_nil _ _).mono ?_; rintro e w' ⟨rfl, rfl⟩)
      | (go_at_call 21; refine (fails_t _ _).mono ?_; rintro e w' ⟨rfl, rfl⟩)
      | (go_at_call 18; refine (lives_t w _ h).mono ?_; rintro e w' ⟨rfl, hk⟩))
    go_ret
    exact ⟨rfl, hk⟩
  · by_cases hm : a = -9223372036854775808 ∧ b = -1
    · obtain ⟨rfl, rfl⟩ := hm
      have HM : Hid (∀ X, Calls Tryd.prog 20 #[.int .i64 (-9223372036854775808), .int .i64 (-1)] X fun e w' => e = .returned (.tuple #[.int .i64 0, .int .i64 0]) ∧ X = w') := fun X => by
        have := mod_any (-9223372036854775808) (-1) X hb0 hb hb'
        rw [show (-9223372036854775808 : Int).fmod (-1) = 0 by decide +kernel] at this
        exact this
      go_enter Tryd.func4, Tryd.ntmps4
      go_wp2_with (first
        | (go_at_call 19; refine (div_over _).mono ?_; rintro e w' ⟨rfl, rfl⟩)
        | (go_at_call 20; refine (HM.out _).mono ?_; rintro e w' ⟨rfl, rfl⟩)
        | (go_at_call 21; refine (fails_t _ _).mono ?_; rintro e w' ⟨rfl, rfl⟩)
        | (go_at_call 17; refine (gives_t _ _).mono ?_; rintro e w' ⟨rfl, rfl⟩)
        | (go_at_call 18; refine (lives_t w _ h).mono ?_; rintro e w' ⟨rfl, hk⟩))
      go_ret
      exact ⟨rfl, hk⟩
    · exact divs_gen a b c w W ha ha' hb hb' hc hc' hb0 hm h
end Go.Proofs.YtimahbomndffaaaDoor
