/- The law IntsParse: it returns true for every input. -/
import Derived.Test.YtimahbomndffaaaDoorParseR
namespace Go.Proofs.YtimahbomndffaaaDoor
open Go.RowKit

theorem dig_back : ∀ m : List UInt8, m.all digitB = true → (digs m).reverse.map (fun d => UInt8.ofNat (48 + d)) = m := by
  intro m h
  unfold digs
  rw [← List.map_reverse, List.reverse_reverse, List.map_map]
  conv => rhs; rw [← List.map_id m]
  refine List.map_congr_left fun c hc => ?_
  have hd := List.all_eq_true.1 h c hc
  simp only [digitB, decide_eq_true_eq] at hd
  simp only [Function.comp, id_eq]
  rw [← UInt8.toNat_inj, UInt8.toNat_ofNat']
  omega
theorem pre_drop : ∀ l : List UInt8, preB (negB l) ++ l.drop (fromN l) = l
  | [] => rfl
  | c :: r => by
    unfold fromN
    have h := negB_list (c :: r) (by simp)
    simp only [List.getElem_cons_zero] at h
    rw [h]
    by_cases hc : c = 45
    · subst hc; rfl
    · simp [hc, preB]
theorem from_lt {l : List UInt8} (h : isTextB l = true) : fromN l < l.length := by
  rcases Nat.lt_or_ge (fromN l) l.length with q | q
  · exact q
  · have := text_short (l := l) (by have := from_le l; omega)
    rw [this] at h; cases h
theorem itoa_text {l : List UInt8} (h : isTextB l = true) : Lib.itoa (valB l) = l := by
  have hlt := from_lt h
  by_cases h48 : (l[fromN l]'hlt).toNat = 48
  · by_cases h1 : 1 < l.length
    · rw [text_zero hlt h48 h1] at h; cases h
    · have h5 : fromN l = 0 := by omega
      obtain ⟨c, rfl⟩ := List.length_eq_one_iff.1 (show l.length = 1 by omega)
      have hc : c.toNat = 48 := by simpa [h5] using h48
      have : c = 48 := by rw [← UInt8.toNat_inj]; exact hc
      subst this
      exact itoa_zero
  · rw [text_digits hlt (.inl h48)] at h
    have hst := digs_step l (fromN l) hlt
    have hc := all_step l (fromN l) hlt
    rw [h] at hc
    have hc2 := (Bool.and_eq_true_iff.1 hc.symm).1
    simp only [digitB, decide_eq_true_eq] at hc2
    have ht : tidy (digs (l.drop (fromN l))) := by
      intro x r e
      rw [hst] at e
      have := (List.append_inj' e rfl).2
      simp only [List.cons.injEq, and_true] at this
      omega
    have hne : digs (l.drop (fromN l)) ≠ [] := by rw [hst]; simp
    have h0 : numFrom 0 (l.drop (fromN l)) ≠ 0 := by
      rw [← digs_val]; exact fun e => hne ((tidy_zero ht).1 e)
    rw [valB_sgv, itoa_of (digs_10 h) ht (by rw [sgv_abs, digs_val]) hne, sgv_neg _ _ h0, txt, dig_back _ h, pre_drop]
theorem text_lim {l : List UInt8} (h : isTextB l = true) (hl : l.length ≤ 100) : (valB l).natAbs < lim := by
  have hlt := from_lt h
  have hd : (l.drop (fromN l)).all digitB = true := by rw [← bare_drop]; exact (bare_digits h).2
  rw [valB_sgv, sgv_abs, ← digs_val]
  have h1 := valD_lt (digs_10 hd)
  rw [digs_len, List.length_drop] at h1
  unfold lim
  exact Nat.lt_of_lt_of_le h1 (Nat.pow_le_pow_right (by omega) (by omega))

set_option maxRecDepth 100000 in
set_option maxHeartbeats 1600000 in
theorem parse_law (s : ByteArray) (w W : World) (_hs : s.size ≤ maxLen) (h : Ok w W) :
    Calls Tryd.prog 7 #[.string s] W fun e w' => e = .returned (.bool true) ∧ Ok w w' := by
  by_cases h1 : s.size ≤ 100
  · have h0 : ¬ (100 : Int) < s.size := by omega
    obtain ⟨z, hz⟩ : ∃ z, z = valB s.data.toList := ⟨_, rfl⟩
    cases hT : isTextB s.data.toList
    · have HP : Hid (∀ X, Ok w X → Calls Tryd.prog 26 #[.string s] X fun e w' => e = .returned (.tuple #[.int .i64 0, .int .i64 5]) ∧ Ok w w') :=
        fun X hX => (parse_bad s X (by omega) hT).mono fun _ _ ⟨a, b⟩ => ⟨a, hX.step b⟩
      have HR : Hid (∀ X, Ok w X → Calls Tryd.prog 28 #[.string s] X fun e w' => ∃ b A n c, e = .returned (.tuple #[.agg #[.bool b, .slice A n c], .bool false]) ∧ Ok w w') :=
        fun X hX => (parseR_gen s false z X h1 hT hz.symm).mono fun _ _ ⟨u1, u2, u3, u4, a, _, b⟩ => ⟨u1, u2, u3, u4, a, hX.step b⟩
      clear hT hz h1
      go_enter Tryd.func7, Tryd.ntmps7
      go_wp2_with (first
        | (go_at_call 26; refine (HP.out _ h).mono ?_; rintro e w1 ⟨rfl, o1⟩)
        | (go_at_call 28; refine (HR.out _ (by assumption)).mono ?_; rintro e w2 ⟨b4, A4, n4, c4, rfl, o2⟩)
        | (go_at_call 21; refine (fails_t _ _).mono ?_; rintro e w' ⟨rfl, rfl⟩)
        | (go_at_call 18; refine (lives_t w _ (by first | assumption | exact o2.step (by go_grown))).mono ?_; rintro e w5 ⟨rfl, o5⟩))
      go_ret
      exact ⟨rfl, by assumption⟩
    · have hlim := text_lim hT (by rw [← Lib.size_eq]; exact h1)
      rw [← hz] at hlim
      have hti : s = ⟨(Lib.itoa z).toArray⟩ := by rw [hz, itoa_text hT]
      have HR : Hid (∀ X, Ok w X → Calls Tryd.prog 28 #[.string s] X fun e w' => ∃ b A n c, e = .returned (.tuple #[.agg #[.bool b, .slice A n c], .bool true]) ∧ IsN w' (.agg #[.bool b, .slice A n c]) z ∧ Ok w w') :=
        fun X hX => (parseR_gen s true z X h1 hT hz.symm).mono fun _ _ ⟨u1, u2, u3, u4, a, c, b⟩ => ⟨u1, u2, u3, u4, a, c rfl, hX.step b⟩
      have HP : Hid (∀ X, Ok w X → Calls Tryd.prog 26 #[.string s] X fun e w' => e = .returned (.tuple #[.int .i64 (fitV z), .int .i64 (fitE z)]) ∧ Ok w w') :=
        fun X hX => by rw [hz]; exact (parse_any s X (by omega) hX.1 hT).mono fun _ _ ⟨a, b⟩ => ⟨a, hX.step b⟩
      have HI : Hid (∀ X u, Ok w X → IsN X u z → Calls Tryd.prog 13 #[.int .i64 (fitV z), .int .i64 (fitE z), u] X fun e w' => e = .returned (.bool true) ∧ Ok w w') :=
        fun X u hX hu => (is_t u z X hu hlim).mono fun _ _ ⟨a, b⟩ => ⟨a, hX.step b⟩
      by_cases hfit : -9223372036854775808 ≤ z ∧ z ≤ 9223372036854775807
      · have HT : Hid (∀ X, Ok w X → Calls Tryd.prog 25 #[.int .i64 z] X fun e w' => e = .returned (.string s) ∧ Ok w w') := fun X hX => by
          rw [hti]; exact (text_any z X hfit.1 hfit.2 hX.1).mono fun _ _ ⟨a, b⟩ => ⟨a, hX.step b⟩
        rw [fitV_in hfit.1 hfit.2, fitE_in hfit.1 hfit.2] at HP HI
        clear hT hz h1 hlim hti hfit
        go_enter Tryd.func7, Tryd.ntmps7
        go_wp2_with (first
          | (go_at_call 26; refine (HP.out _ h).mono ?_; rintro e w1 ⟨rfl, o1⟩)
          | (go_at_call 28; refine (HR.out _ (by assumption)).mono ?_; rintro e w2 ⟨b4, A4, n4, c4, rfl, hu, o2⟩)
          | (go_at_call 13; refine (HI.out _ _ (o2.step (by go_grown)) (hu.below (by go_grown))).mono ?_; rintro e w3 ⟨rfl, o3⟩)
          | (go_at_call 25; refine (HT.out _ (by assumption)).mono ?_; rintro e w4 ⟨rfl, o4⟩)
          | (go_at_call 18; refine (lives_t w _ (by first | assumption | exact o2.step (by go_grown))).mono ?_; rintro e w5 ⟨rfl, o5⟩))
        go_ret
        exact ⟨rfl, by assumption⟩
      · rw [fitV, fitE, if_neg hfit, if_neg hfit] at HP HI
        clear hT hz h1 hlim hti hfit
        go_enter Tryd.func7, Tryd.ntmps7
        go_wp2_with (first
          | (go_at_call 26; refine (HP.out _ h).mono ?_; rintro e w1 ⟨rfl, o1⟩)
          | (go_at_call 28; refine (HR.out _ (by assumption)).mono ?_; rintro e w2 ⟨b4, A4, n4, c4, rfl, hu, o2⟩)
          | (go_at_call 13; refine (HI.out _ _ (o2.step (by go_grown)) (hu.below (by go_grown))).mono ?_; rintro e w3 ⟨rfl, o3⟩)
          | (go_at_call 18; refine (lives_t w _ (by first | assumption | exact o2.step (by go_grown))).mono ?_; rintro e w5 ⟨rfl, o5⟩))
        go_ret
        exact ⟨rfl, by assumption⟩
  · have h0 : (100 : Int) < s.size := by omega
    clear h1
    go_enter Tryd.func7, Tryd.ntmps7
    go_wp2_with (go_at_call 18; refine (lives_t w _ (by first | assumption | exact o2.step (by go_grown))).mono ?_; rintro e w5 ⟨rfl, o5⟩)
    go_ret
    exact ⟨rfl, by assumption⟩
end Go.Proofs.YtimahbomndffaaaDoor
