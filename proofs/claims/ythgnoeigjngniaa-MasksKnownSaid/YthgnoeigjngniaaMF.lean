/- The search for the next number: next, and with it Next and Prev. -/
import Derived.Test.YthgnoeigjngniaaMU
import Derived.WalkMore
namespace Go.Proofs.Ythgnoeigjngniaa
open Go.RowKit

theorem rowD_below {w w' : World} {g B : Nat} {f : Nat → Nat} (h : RowD w g f) (hb : Below B w w') (hg : g < B) : RowD w' g f := (hb.block g hg).trans h
theorem rowD_frozen {w : World} {g : Nat} {f : Nat → Nat} (h : RowD w g f) (j : Nat) : w.frozen? ⟨g, j, none⟩ = false := frozen_of_row w g j _ _ h
theorem rowD_put {w : World} {g : Nat} {f : Nat → Nat} (h : RowD w g f) (j v : Nat) : RowD (w.setCell ⟨g, j, none⟩ (.int .i64 (v : Nat))) g (upd f j v) := by
  unfold RowD
  rw [← cellsD_set]
  exact heap_setCell_same w g j _ _ _ h
set_option maxHeartbeats 3200000 in
set_option maxRecDepth 100000 in
theorem nextI_any (s : ByteArray) (n : Int) (w : World) (hm : MaskS s) (h0 : -9223372036854775808 ≤ n) (h1 : n ≤ 9223372036854775807) :
    Calls Try.prog 41 #[.string s, .int .i64 n] w fun e w' => e = .returned (.tuple #[.int .i64 (optV (nextS (rv s) n)), .int .i64 (errO (nextS (rv s) n))]) ∧ Below w.heap.size w w' := by
  have HN : Hid (∀ W, Calls Try.prog 42 #[.string s] W fun e w' => e = .returned (.int .i64 (pten s.size - 1)) ∧ W = w') := fun W => nines_any s W hm.le
  have hp1 := pten_pos s.size
  have hp2 := pten_le hm.le
  by_cases hbig : pten s.size - 1 < n
  · have hr := next_beyond hm.plcs (n := n) (by unfold pten at hbig; omega)
    rw [hr]
    clear hr hm
    generalize pten s.size = p at *
    go_enter Try.func41, Try.ntmps41
    go_wp2
    go_step3
    go_wp2_with (go_at_call 42; refine (HN.out _).mono ?_; rintro e w1 ⟨rfl, rfl⟩)
    rw [Exit.noGoto_ret]
    go_ret2
    exact ⟨rfl, Below.refl _ _⟩
  · obtain ⟨N, hNe⟩ : ∃ N : Nat, (N : Int) = max n 0 := ⟨(max n 0).toNat, by omega⟩
    have hN : N < 10 ^ s.size := by unfold pten at hbig; have : 0 < 10 ^ s.size := Nat.pow_pos (by omega); omega
    have hnN : n ≤ N := by omega
    have hmin : ∀ u : Int, hasI (rv s) u = true → n ≤ u → (N : Int) ≤ u := fun u hu hn => by
      obtain ⟨i, _, rfl⟩ := hasI_idx hu
      omega
    have hNb : N ≤ 9223372036854775807 := by omega
    obtain ⟨f, hf⟩ : ∃ f, f = digF s.size N := ⟨_, rfl⟩
    have h9 : ∀ j, f j ≤ 9 := fun j => by rw [hf]; exact digF_le _ _ _
    have HG : Hid (∀ (nv : Int), nv = (N : Int) → ∀ W, Calls Try.prog 36 #[.int .i64 nv, .int .i64 (s.size : Nat)] W fun e w' => e = .returned (.agg (cellsT f)) ∧ Below W.heap.size W w') := fun nv hnv W => by rw [hf]; exact digitsOf_any N s.size W _ _ hnv rfl hNb hm.le
    have HA : Hid (∀ W, Calls Try.prog 40 #[.string s, .agg (cellsT f)] W fun e w' => ∃ k : Nat, e = .returned (.int .i64 k) ∧ k ≤ s.size ∧ (∀ j, j < k → agr (sat s j) (f j)) ∧ (k < s.size → ¬ agr (sat s k) (f k)) ∧ Below W.heap.size W w') := fun W => agreeing_any s _ W _ rfl hm.plcs hm.le h9
    have hjN : joinF f s.size = N := by rw [hf]; exact joinF_dig hN
    have HJ : Hid (∀ g : Nat → Nat, (∀ j, g j ≤ 9) → ∀ W, Calls Try.prog 38 #[.agg (cellsT g), .int .i64 (s.size : Nat)] W fun e w' => e = .returned (.int .i64 (joinF g s.size : Nat)) ∧ Below W.heap.size W w') := fun g hg W => joined_any g s.size W _ _ rfl rfl hm.le hg
    have HF := Lib.hid (fun place p d0 hpl hp hb hc ha h1 h2 h3 h4 g hg => next_found hm.plcs (n := n) (N := N) (place := place) (p := p) (d0 := d0) hN hnN hmin hpl hp hb hc ha h1 h2 h3 h4 g hg)
    have HO := Lib.hid (fun place hpl hb ha => next_gone hm.plcs (n := n) (N := N) (place := place) hN hmin hpl hb ha)
    have HS := Lib.hid (fun hc => next_self hm.plcs (n := n) hN hnN hmin hc)
    rw [← hf] at HF HO HS
    have HP := Lib.hid (fun k hk => plc_sat hm.plcs (k := k) hk)
    have h18 := hm.le
    have hpos := hm.pos
    have hmx : max n 0 = N := hNe.symm
    have hz := zeroD
    have hn9 : n ≤ pten s.size - 1 := by omega
    have H9 := Lib.hid h9
    clear hm hN hnN hmin hf hNe h9 hbig
    have HJN := Lib.hid hjN
    clear hjN
    go_enter Try.func41, Try.ntmps41
    go_wp2
    go_step3
    go_wp2_with (first
      | (go_at_call 42; refine (HN.out _).mono ?_; rintro e w1 ⟨rfl, rfl⟩))
    all_goals
      refine (HG.out _ (by omega) _).mono ?_
      rintro e w3 ⟨rfl, hb⟩
      simp only []
      go_wp2_with (first
        | (refine wpl_storeD rfl (.tmp 6) (.tmp 18) rfl _ _ _ rfl rfl (rowD_new _ _) ?_)
        | (refine wpl_loadD rfl (.tmp 6) rfl _ _ rfl (rowD_set _ (rowD_new _ _)) ?_))
      refine (HA.out _).mono ?_
      rintro e w4 ⟨k, rfl, hk, hc, hbad, hb4⟩
      have hrow : RowD w4 w3.heap.size f := rowD_below (rowD_set _ (rowD_new _ _)) hb4 (by simp)
      have hw3 := hb.size
      have hbw := Lib.hid (bthen hb (((((Below.refl w3.heap.size w3).alloc (Nat.le_refl _) _)).trans (below_row (Below.refl _ _) (Nat.le_refl _) _)).trans (hb4.mono (by simp))))
      generalize w3.heap.size = g at *
      clear hb4 hb HA HG HN hz hmx hn9 hp1 hp2
      have HC := Lib.hid hc
      have HB := Lib.hid hbad
      clear hc hbad
      by_cases hkz : k = s.size
      · subst hkz
        have hR : Hid (nextS (rv s) n = some N) := HS.out HC.out
        have HJf := Lib.hid (HJ.out f H9.out)
        clear HO HF HS HJ
        go_wp2_with (first
          | (refine wpl_loadD rfl (.tmp 6) rfl _ _ rfl hrow ?_)
          | (go_at_call 38; refine (HJf.out _).mono ?_; rintro e w5 ⟨rfl, hb5⟩))
        rw [Exit.noGoto_ret]
        go_ret2
        exact ⟨by rw [hR.out, HJN.out]; rfl, bthen hbw.out hb5⟩
      · have hkl : k < s.size := by omega
        have HBk := Lib.hid (HB.out hkl)
        clear HS HB
        go_wp2_with fail
        go_step3
        have hg18 : ∀ j, j < 18 → w4.cell? ⟨g, j, none⟩ = some (.int .i64 (f j : Nat)) := fun j hj => rowD_cell hrow hj
        have HCL := Lib.hid hg18
        clear hg18
        go_wp2_with fail
        go_loop [7] (fun pv => ∃ p : Nat, p ≤ k + 1 ∧ pv = .int .i64 ((p : Int) - 1) ∧ Hid (∀ j, p ≤ j → j ≤ k → ∀ d, f j < d → d ≤ 9 → ¬ agr (sat s j) d)) (fun pv => (intOf pv + 1).toNat)
        case atStart => exact ⟨k + 1, Nat.le_refl _, by go_num, fun j h1 h2 => by omega⟩
        case round =>
          obtain ⟨p, hp, rfl, hno⟩ := hrel
          by_cases hp0 : p = 0
          · subst hp0
            have hR : Hid (nextS (rv s) n = none) := HO.out k hkl HBk.out fun j hj => hno.out j (Nat.zero_le _) hj
            clear HO HF HJ HC HBk hno
            go_wp2_with fail
            go_ret2
            exact ⟨by rw [hR.out]; rfl, hbw.out⟩
          · obtain ⟨q, rfl⟩ : ∃ q, p = q + 1 := ⟨p - 1, by omega⟩
            have hc := HCL.out q (by omega)
            have e1 : ((q + 1 : Nat) : Int) - 1 = q := by omega
            rw [e1]
            have hq18 : (q : Int) < 18 := by omega
            have hfq := H9.out q
            clear hp0 e1
            go_wp2_with fail
            go_loop [8] (fun dv => ∃ d : Nat, f q < d ∧ d ≤ 10 ∧ dv = .int .i64 (d : Nat) ∧ Hid (∀ d', f q < d' → d' < d → ¬ agr (sat s q) d')) (fun dv => 10 - (intOf dv).toNat)
            case atStart => exact ⟨f q + 1, by omega, by omega, by go_num, fun d' h1 h2 => by omega⟩
            case round =>
              obtain ⟨d, hd1, hd2, rfl, hnd⟩ := hrel
              by_cases hd : d = 10
              · subst hd
                have HNO : Hid (∀ j, q ≤ j → j ≤ k → ∀ d, f j < d → d ≤ 9 → ¬ agr (sat s j) d) := fun j hj1 hj2 d h1 h2 => by
                  rcases Nat.lt_or_eq_of_le hj1 with h | h
                  · exact hno.out j h hj2 d h1 h2
                  · subst h; exact hnd.out d h1 (by omega)
                clear hno hnd HC HBk HF HO HJ HJN
                go_wp2_with fail
                go_round
                case rel => exact ⟨q, by omega, rfl, HNO⟩
                case measure => simp [intOf] <;> omega
              · have hql : q < s.size := by omega
                have hp := HP.out q hql
                have hsk : sat s q = s[q] := sat_in hql
                have hd9 : d ≤ 9 := by omega
                have hb256 : ((s[q].toNat : Nat) : Int) < 256 := by have := s[q].toNat_lt; omega
                have HD : Hid (∀ W, Calls Try.prog 37 #[.int .i32 ((s[q].toNat : Nat) : Int), .int .i64 (d : Nat)] W fun e w' => e = .returned (.int .i64 (dorN (sat s q) d : Nat)) ∧ W = w') := fun W => digitOr_any _ _ _ _ W hp (by rw [hsk]) rfl
                by_cases ha : agr (sat s q) d
                · have hda : dorN (sat s q) d = d := (agr_dorN hp).1 ha
                  rw [hda] at HD
                  have HA := Lib.hid ha
                  have HND' := hnd
                  have hf2 := rowD_frozen hrow q
                  clear ha hp hda hsk hd
                  go_wp2_with (go_at_call 37; refine (HD.out _).mono ?_; rintro e w' ⟨rfl, rfl⟩)
                  have hrow2 := rowD_put hrow q d
                  have hbw2 := hbw.out.setCell (p := ⟨g, q, none⟩) hw3 (.int .i64 (d : Nat))
                  generalize w4.setCell ⟨g, q, none⟩ (.int .i64 (d : Nat)) = w5 at *
                  clear hc hf2 HD hrow hbw HCL hb256 hnd
                  have HNX : Hid (∀ F : Nat → Nat, (∀ j, j < s.size → F j = if j < q then f j else if j = q then d else dorN (sat s j) 0) → nextS (rv s) n = some (joinF F s.size)) := fun F hF =>
                    HF.out k q d hkl (by omega) HBk.out HC.out (fun j h1 h2 => hno.out j (by omega) h2) hd1 hd9 HA.out HND'.out F hF
                  clear HF HBk HC hno HO HJN
                  go_loopw [9] (fun bv wr => ∃ (i : Nat) (F : Nat → Nat), q < i ∧ i ≤ s.size ∧ bv = .int .i64 (i : Nat) ∧ Hid (∀ j, F j = if j < q then f j else if j = q then d else if j < i then dorN (sat s j) 0 else f j) ∧ RowD wr g F ∧ Below w.heap.size w wr) (fun bv _ => s.size - (intOf bv).toNat)
                  case atStart => exact ⟨q + 1, _, by omega, by omega, by go_num, (fun j => by unfold upd; by_cases h1 : j = q; (subst h1; rw [if_pos rfl, if_neg (by omega), if_pos rfl]); (rw [if_neg h1]; by_cases h2 : j < q; (rw [if_pos h2]); (rw [if_neg h2, if_neg h1, if_neg (by omega)]))), hrow2, hbw2⟩
                  case round =>
                    obtain ⟨i, F, hi1, hi2, rfl, hF, hr, hb⟩ := hrel
                    have HF9 : Hid (∀ j, F j ≤ 9) := fun j => by
                      rw [hF.out]
                      split
                      · exact H9.out j
                      · split
                        · exact hd9
                        · split
                          · exact dorN_le (HP.out j (by omega)) (by omega)
                          · exact H9.out j
                    by_cases hlt : i < s.size
                    · have hc := rowD_cell hr (j := i) (by omega)
                      have hfz := rowD_frozen hr i
                      have hp := HP.out i hlt
                      have hsk : sat s i = s[i] := sat_in hlt
                      have hb256 : ((s[i].toNat : Nat) : Int) < 256 := by have := s[i].toNat_lt; omega
                      have HD : Hid (∀ W, Calls Try.prog 37 #[.int .i32 ((s[i].toNat : Nat) : Int), .int .i64 0] W fun e w' => e = .returned (.int .i64 (dorN (sat s i) 0 : Nat)) ∧ W = w') := fun W => digitOr_any _ 0 _ _ W hp (by rw [hsk]) rfl
                      have HU : Hid (∀ j, upd F i (dorN (sat s i) 0) j = if j < q then f j else if j = q then d else if j < i + 1 then dorN (sat s j) 0 else f j) := fun j => by
                        unfold upd
                        by_cases h1 : j = i
                        · subst h1; rw [if_pos rfl, if_neg (by omega), if_neg (by omega), if_pos (by omega)]
                        · rw [if_neg h1, hF.out]
                          split
                          · rfl
                          · split
                            · rfl
                            · split
                              · rw [if_pos (by omega)]
                              · rw [if_neg (by omega)]
                      have hr2 := rowD_put hr i (dorN (sat s i) 0)
                      have hb2 := hb.setCell (p := ⟨g, i, none⟩) hw3 (.int .i64 (dorN (sat s i) 0 : Nat))
                      have hi18 : (i : Int) < 18 := by omega
                      generalize dorN (sat s i) 0 = y at *
                      generalize F i = z at *
                      clear hp hsk hF hb hr HF9 HNX
                      go_wp2_with (go_at_call 37; refine (HD.out _).mono ?_; rintro e w' ⟨rfl, rfl⟩)
                      go_roundw
                      case rel => exact ⟨i + 1, _, by omega, by omega, by go_num, HU, hr2, hb2⟩
                      case measure => simp [intOf]; omega
                    · obtain rfl : i = s.size := by omega
                      have hR : Hid (nextS (rv s) n = some (joinF F s.size)) := HNX.out F fun j hj => by
                        rw [hF.out j]
                        split
                        · rfl
                        · split
                          · rfl
                          · first | rfl | rw [if_pos hj]
                      have HJf := Lib.hid (HJ.out F HF9.out)
                      clear hF HNX HJ HF9
                      go_wp2_with (first
                        | (refine wpl_loadD rfl (.tmp 6) rfl _ _ rfl hr ?_)
                        | (go_at_call 38; refine (HJf.out _).mono ?_; rintro e w6 ⟨rfl, hb6⟩))
                      rw [Exit.noGoto_ret]
                      go_ret2
                      exact ⟨by rw [hR.out]; rfl, bthen hb hb6⟩
                · have hda : ¬ dorN (sat s q) d = d := fun h => ha ((agr_dorN hp).2 h)
                  have HND : Hid (∀ d', f q < d' → d' < d + 1 → ¬ agr (sat s q) d') := fun d' h1 h2 => by
                    rcases Nat.lt_or_ge d' d with h | h
                    · exact hnd.out d' h1 h
                    · obtain rfl : d' = d := by omega
                      exact ha
                  generalize dorN (sat s q) d = y at *
                  clear ha hp hsk hnd hno HC HBk HF HO HJ HJN
                  go_wp2_with (go_at_call 37; refine (HD.out _).mono ?_; rintro e w' ⟨rfl, rfl⟩)
                  go_round
                  case rel => exact ⟨d + 1, by omega, by omega, by go_num, HND⟩
                  case measure => simp [intOf]; omega
end Go.Proofs.Ythgnoeigjngniaa
