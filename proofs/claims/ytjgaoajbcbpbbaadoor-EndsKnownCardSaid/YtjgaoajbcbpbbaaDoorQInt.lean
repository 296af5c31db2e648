/- The reference's turn into an int64. -/
import Derived.Test.YtjgaoajbcbpbbaaDoorQCmp
namespace Go.Proofs.YtjgaoajbcbpbbaaDoor
open Go.RowKit

def fitsB (n : Int) : Bool := decide (-9223372036854775808 ≤ n ∧ n ≤ 9223372036854775807)
theorem lim_small : 9223372036854775808 < lim := by unfold lim; decide +kernel
theorem cmp_least (z : Int) (h : -9223372036854775808 ≤ z) : 0 ≤ cmpI z (-9223372036854775808) := by unfold cmpI; rw [if_neg (by omega)]; split <;> omega
theorem cmp_least' (z : Int) (h : z < -9223372036854775808) : cmpI z (-9223372036854775808) < 0 := by unfold cmpI; rw [if_pos (by omega)]; omega
theorem cmp_most (z : Int) (h : z ≤ 9223372036854775807) : cmpI z 9223372036854775807 ≤ 0 := by unfold cmpI; split; omega; rw [if_neg (by omega)]; omega
theorem cmp_most' (z : Int) (h : 9223372036854775807 < z) : 0 < cmpI z 9223372036854775807 := by unfold cmpI; rw [if_neg (by omega), if_pos (by omega)]; omega
theorem cmp_bd (x y : Int) : -1 ≤ cmpI x y ∧ cmpI x y ≤ 1 := by unfold cmpI; split; omega; split <;> omega

theorem ret_ib {k : IntKind} {a b : Int} {c d : Bool} (h : a = b) (h' : c = d) : Ending.returned (.tuple #[.int k a, .bool c]) = .returned (.tuple #[.int k b, .bool d]) := by rw [h, h']
theorem int_bounds {z : Int} {n : Nat} (h : n = z.natAbs) (hz : -9223372036854775808 ≤ z ∧ z ≤ 9223372036854775807) : n = z.natAbs ∧ n ≤ 9223372036854775808 ∧ (decide (z < 0) = false → n ≤ 9223372036854775807) :=
  ⟨h, by omega, fun h => by simp at h; omega⟩
theorem sgv_of {z : Int} {n : Nat} (h : n = z.natAbs) : sgv (decide (z < 0)) n = z := by
  rw [h]; unfold sgv; by_cases hx : z < 0 <;> simp [hx] <;> omega
theorem one_new (w : World) (c0 : Array Value) (W : World) (hW : W = w.alloc (.cells c0 60)) : Bk W w.heap.size c0 ∧ Below w.heap.size w W ∧ w.heap.size < W.heap.size := by
  subst hW
  exact ⟨Bk.new w c0, by go_grown, by simp⟩

set_option maxRecDepth 100000 in
set_option maxHeartbeats 1600000 in
theorem int_any (v : Value) (z : Int) (w : World) (hv : IsN w v z) (hz : z.natAbs < lim) :
    Calls Tryd.prog 37 #[v] w fun e w' => e = .returned (.tuple #[.int .i64 (fitV z), .bool (fitsB z)]) ∧ Below w.heap.size w w' := by
  obtain ⟨b1, A1, m1, c1, rfl⟩ := id hv.form
  have HO : Hid (∀ n X, -9223372036854775808 ≤ n → n ≤ 9223372036854775807 → Calls Tryd.prog 35 #[.int .i64 n] X fun e w' => ∃ r, e = .returned r ∧ IsN w' r n ∧ Below X.heap.size X w') := fun n X h0 h1 => of_any n X h0 h1
  go_enter Tryd.func37, Tryd.ntmps37
  go_wp2_with fail
  obtain ⟨b0, hb0, hs0⟩ := one_new w #[Value.bool b1, Value.slice A1 m1 c1] _ rfl
  generalize (w.alloc (Obj.cells #[Value.bool b1, Value.slice A1 m1 c1] 60)) = W0 at *
  refine (HO.out _ W0 (by omega) (by omega)).mono ?_
  rintro e w1 ⟨r1, rfl, hr1, hb1⟩
  obtain ⟨b2, A2, m2, c2, rfl⟩ := id hr1.form
  have v1 := (hv.below hb0).below hb1
  have b0 := b0.below hb1 hs0
  have hb1 := hb0.trans (hb1.mono (Nat.le_of_lt hs0))
  clear hb0
  go_wp2_with fail
  obtain ⟨q1, hq1, hs1⟩ := one_new w1 #[Value.bool b2, Value.slice A2 m2 c2] _ rfl
  have v2 := v1.below hq1
  have p0 := b0.below hq1 b0.lt
  have hb2 := hb1.trans (hq1.mono hb1.size)
  have hr2 := hr1.below hq1
  generalize e1 : w1.heap.size = g1 at *
  have l1 : w.heap.size < g1 := by have := b0.lt; omega
  clear hr1 v1 b0 hb1 hq1 e1
  generalize (w1.alloc (Obj.cells #[Value.bool b2, Value.slice A2 m2 c2] 60)) = W1 at *
  refine (HO.out _ W1 (by omega) (by omega)).mono ?_
  rintro e w2 ⟨r2, rfl, hr3, hb3⟩
  obtain ⟨b3, A3, m3, c3, rfl⟩ := id hr3.form
  have v3 := v2.below hb3
  have p1 := p0.below hb3 p0.lt
  have q2 := q1.below hb3 q1.lt
  have hr4 := hr2.below hb3
  have hb4 := hb2.trans (hb3.mono hb2.size)
  clear v2 p0 q1 hr2 hb3 hb2 HO
  go_upto_region 3 with fail
  obtain ⟨s1, hq1, hs2⟩ := one_new w2 #[Value.bool b3, Value.slice A3 m3 c3] _ rfl
  have v4 := v3.below hq1
  have p2 := p1.below hq1 p1.lt
  have q3 := q2.below hq1 q2.lt
  have hr5 := hr4.below hq1
  have hr6 := hr3.below hq1
  have hb5 := hb4.trans (hq1.mono hb4.size)
  have l2 : g1 < w2.heap.size := q2.lt
  generalize e2 : w2.heap.size = g2 at *
  clear v3 p1 q2 hr3 hr4 hb4 hq1 e2
  generalize (w2.alloc (Obj.cells #[Value.bool b3, Value.slice A3 m3 c3] 60)) = W2 at *
  have f0 := p2.cell 0
  have f1 := p2.cell 1
  have f2 := q3.cell 0
  have f3 := q3.cell 1
  simp at f0 f1 f2 f3
  have HL := lim_small
  have HC1 : Hid (Calls Tryd.prog 45 #[.agg #[.bool b1, .slice A1 m1 c1], .agg #[.bool b2, .slice A2 m2 c2]] W2 fun e w' => e = .returned (.int .i64 (cmpI z (-9223372036854775808))) ∧ Below W2.heap.size W2 w') :=
    cmp_any _ _ z _ W2 v4 hr5 hz (by omega)
  have HC2 : Hid (∀ X, Below W2.heap.size W2 X → Calls Tryd.prog 45 #[.agg #[.bool b1, .slice A1 m1 c1], .agg #[.bool b3, .slice A3 m3 c3]] X fun e w' => e = .returned (.int .i64 (cmpI z 9223372036854775807)) ∧ Below X.heap.size X w') :=
    fun X hX => cmp_any _ _ z _ X (v4.below hX) (hr6.below hX) hz (by omega)
  have HX := cmp_bd z (-9223372036854775808)
  have HY := cmp_bd z 9223372036854775807
  by_cases h1 : z < -9223372036854775808
  · have t1 := cmp_least' z h1
    have hf : Hid (fitV z = 0 ∧ fitsB z = false) := ⟨fitV_out (.inl h1), by unfold fitsB; simp; omega⟩
    generalize cmpI z (-9223372036854775808) = k1 at *
    clear HL HC2 HY hr5 hr6 v4 h1
    go_wp2_with (go_at_call 45; refine HC1.out.mono ?_; rintro e w3 ⟨rfl, hb6⟩)
    go_ret2
    exact ⟨ret_ib hf.out.1.symm hf.out.2.symm, hb5.trans (hb6.mono hb5.size)⟩
  · by_cases h2 : 9223372036854775807 < z
    · have t1 := cmp_least z (by omega)
      have t2 := cmp_most' z h2
      have hf : Hid (fitV z = 0 ∧ fitsB z = false) := ⟨fitV_out (.inr h2), by unfold fitsB; simp; omega⟩
      generalize cmpI z (-9223372036854775808) = k1 at *
      generalize cmpI z 9223372036854775807 = k2 at *
      clear HL hr5 hr6 v4 h1 h2
      go_wp2_with (first
        | (go_at_call 45; ((with_reducible refine HC1.out.mono ?_); rintro e w3 ⟨rfl, hb6⟩; obtain ⟨hc1, hf1⟩ := bcell hb6; have k0 := (hb6.cell (p := ⟨w.heap.size, 0, none⟩) p2.lt).trans f0; have k1' := (hb6.cell (p := ⟨w.heap.size, 1, none⟩) p2.lt).trans f1; have k2' := (hb6.cell (p := ⟨g2, 0, none⟩) s1.lt).trans (s1.cell 0); have k3' := (hb6.cell (p := ⟨g2, 1, none⟩) s1.lt).trans (s1.cell 1); simp at k2' k3'; clear hc1 hf1))
        | (go_at_call 45; ((with_reducible refine (HC2.out _ hb6).mono ?_); rintro e w4 ⟨rfl, hb7⟩)))
      go_ret2
      exact ⟨ret_ib hf.out.1.symm hf.out.2.symm, (hb5.trans (hb6.mono hb5.size)).trans (hb7.mono (by have := hb6.size; have := hb5.size; omega))⟩
    · have t1 := cmp_least z (by omega)
      have t2 := cmp_most z (by omega)
      have hf : Hid (fitV z = z ∧ fitsB z = true) := ⟨fitV_in (by omega) (by omega), by unfold fitsB; simp; omega⟩
      generalize cmpI z (-9223372036854775808) = k1 at *
      generalize cmpI z 9223372036854775807 = k2 at *
      have hzb : Hid (-9223372036854775808 ≤ z ∧ z ≤ 9223372036854775807) := ⟨by omega, by omega⟩
      obtain ⟨ds, hr1, hr2, hr3, hr4⟩ := v4
      obtain ⟨u, hu1, hu2⟩ := hr1
      injection hu1 with hu1
      simp at hu1
      obtain ⟨rfl, rfl⟩ := hu1
      obtain ⟨A', c', hu3, hu4, -, hu5⟩ := hu2.old
      injection hu3 with hA hn hc
      subst hA hn hc
      have hlen : ds.length ≤ 200 := tidy_len hr3 (by rw [hr4]; exact hz)
      clear HL hr5 hr6 h1 h2
      go_wp2_with (first
        | (go_at_call 45; ((with_reducible refine HC1.out.mono ?_); rintro e w3 ⟨rfl, hb6⟩; have k0 := (hb6.cell (p := ⟨w.heap.size, 0, none⟩) p2.lt).trans f0; have k1' := (hb6.cell (p := ⟨w.heap.size, 1, none⟩) p2.lt).trans f1; have k2' := (hb6.cell (p := ⟨g2, 0, none⟩) s1.lt).trans (s1.cell 0); have k3' := (hb6.cell (p := ⟨g2, 1, none⟩) s1.lt).trans (s1.cell 1); simp at k2' k3'))
        | (go_at_call 45; ((with_reducible refine (HC2.out _ hb6).mono ?_); rintro e w4 ⟨rfl, hb7⟩; have p3 := (p2.below hb6 p2.lt).below hb7 (p2.below hb6 p2.lt).lt; have m0 := p3.cell 0; have m1' := p3.cell 1; simp at m0 m1')))
      have hb8 : Below w.heap.size w w4 := (hb5.trans (hb6.mono hb5.size)).trans (hb7.mono (by have := hb6.size; have := hb5.size; omega))
      have hw4 : Below W2.heap.size W2 w4 := hb6.trans (hb7.mono hb6.size)
      have HV : Hid (valD ds = z.natAbs ∧ valD ds ≤ 9223372036854775808 ∧ (decide (z < 0) = false → valD ds ≤ 9223372036854775807)) := int_bounds hr4 hzb.out
      have HS : Hid (sgv (decide (z < 0)) (valD ds) = z) := sgv_of hr4
      have HU := Lib.hid hu5
      clear hb6 hb7 hb5 hr4 hu5 k0 k1' k2' k3' f0 f1 f2 f3 HC1 HC2 hu2 t1 t2 HX HY p2 q3 s1 hs2 p3 hv hz
      generalize decide (z < 0) = neg at *
      go_loop [6, 7] (fun x i => ∃ k : Nat, k ≤ ds.length ∧ i = .int .i64 ((k : Int) - 1) ∧ x = .int .i64 (sgv neg (valD (ds.drop k)))) (fun _ i => (intOf i + 1).toNat)
      case atStart => exact ⟨ds.length, Nat.le_refl _, rfl, by rw [List.drop_length]; cases neg <;> rfl⟩
      case round =>
        obtain ⟨k, hk, rfl, rfl⟩ := hrel
        rcases k with _ | j
        · have HR : Hid (sgv neg (valD (ds.drop 0)) = fitV z) := by
            show _ = _
            rw [hf.out.1, List.drop_zero]; exact HS.out
          have hf2 := hf.out.2
          have HF := Lib.hid hf2
          generalize sgv neg (valD (ds.drop 0)) = r at *
          clear hf2
          go_wp2_with fail
          go_ret2
          exact ⟨ret_ib HR.out HF.out.symm, hb8⟩
        · obtain ⟨b, o, rfl, hbb, hcell⟩ := HU.out (by omega)
          have fj := (hw4.cell (p := ⟨b, o + j, none⟩) hbb).trans (hcell j (by omega))
          have e1 : (((j + 1 : Nat) : Int) - 1) = (j : Int) := by omega
          rw [e1]
          have hd := valD_drop ds j
          have hle := drop_le ds j (by omega)
          have h10 := dig10_at hr2 j
          obtain ⟨hv1, hv2, hv3⟩ := HV.out
          have HD : Hid (valD (ds.drop j) = ds.getD j 0 + 10 * valD (ds.drop (j + 1))) := hd
          have hbj : valD (ds.drop (j + 1)) ≤ 922337203685477580 := by omega
          have hb9 : valD (ds.drop j) ≤ 9223372036854775808 := by omega
          have hb10 : neg = false → valD (ds.drop j) ≤ 9223372036854775807 := fun h => by have := hv3 h; omega
          clear e1 hcell hv1 hv2 hv3 hle
          have hsum : ((ds.getD j 0 : Nat) : Int) + 10 * (valD (ds.drop (j + 1)) : Int) = (valD (ds.drop j) : Int) := by omega
          generalize ds.getD j 0 = x at *
          generalize valD (ds.drop (j + 1)) = p at *
          clear hd
          cases neg
          · have hs1 : sgv false p = (p : Int) := rfl
            have HQ : Hid ((10 : Int) * p + x = sgv false (valD (ds.drop j))) := by show _ = ((valD (ds.drop j) : Nat) : Int); omega
            have g1 : 10 * (p : Int) + x ≤ 9223372036854775807 := by have := hb10 rfl; omega
            rw [hs1]
            clear hb10 hs1 hsum HD hb9
            go_wp2_with fail
            go_round
            case rel => exact ⟨j, by omega, by first | rfl | go_num, by first | rw [HQ.out] | (rw [← HQ.out]; go_num)⟩
            case measure => simp [intOf]
          · have hs1 : sgv true p = -(p : Int) := rfl
            have HQ : Hid ((10 : Int) * -(p : Int) - x = sgv true (valD (ds.drop j))) := by show _ = -((valD (ds.drop j) : Nat) : Int); omega
            have g1 : -9223372036854775808 ≤ 10 * -(p : Int) - x := by omega
            rw [hs1]
            clear hb10 hs1 hsum HD hb9
            go_wp2_with fail
            go_round
            case rel => exact ⟨j, by omega, by first | rfl | go_num, by first | rw [HQ.out] | (rw [← HQ.out]; go_num)⟩
            case measure => simp [intOf]
end Go.Proofs.YtjgaoajbcbpbbaaDoor
