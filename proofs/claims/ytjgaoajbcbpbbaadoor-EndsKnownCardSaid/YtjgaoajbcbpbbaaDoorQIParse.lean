/- The law IntsParse: it returns true for every input. -/
import Derived.Test.YtjgaoajbcbpbbaaDoorQParse
namespace Go.Proofs.YtjgaoajbcbpbbaaDoor
open Go.RowKit

theorem dig_back : ∀ m : List UInt8, m.all digitB = true → (digs m).reverse.map (fun d => UInt8.ofNat (48 + d)) = m := by
  intro m h
  unfold digs
  rw [← List.map_reverse, List.reverse_reverse, List.map_map]
  conv => rhs; rw [← List.map_id m]
  refine List.map_congr_left fun c hc => ?_
  have hd := List.all_eq_true.1 h c hc
  simp only [digitB, decide_eq_true_eq] at hd
  simp only [Function.comp, id_eq]
  rw [← UInt8.toNat_inj, UInt8.toNat_ofNat']
  omega
theorem pre_drop : ∀ l : List UInt8, preB (negB l) ++ l.drop (fromN l) = l
  | [] => rfl
  | c :: r => by
    unfold fromN
    have h := negB_list (c :: r) (by simp)
    simp only [List.getElem_cons_zero] at h
    rw [h]
    by_cases hc : c = 45
    · subst hc; rfl
    · simp [hc, preB]
theorem from_lt {l : List UInt8} (h : isTextB l = true) : fromN l < l.length := by
  rcases Nat.lt_or_ge (fromN l) l.length with q | q
  · exact q
  · have := text_short (l := l) (by have := from_le l; omega)
    rw [this] at h; cases h
theorem itoa_text {l : List UInt8} (h : isTextB l = true) : Lib.itoa (valB l) = l := by
  have hlt := from_lt h
  by_cases h48 : (l[fromN l]'hlt).toNat = 48
  · by_cases h1 : 1 < l.length
    · rw [text_zero hlt h48 h1] at h; cases h
    · have h5 : fromN l = 0 := by omega
      obtain ⟨c, rfl⟩ := List.length_eq_one_iff.1 (show l.length = 1 by omega)
      have hc : c.toNat = 48 := by simpa [h5] using h48
      have : c = 48 := by rw [← UInt8.toNat_inj]; exact hc
      subst this
      exact itoa_zero
  · rw [text_digits hlt (.inl h48)] at h
    have hst := digs_step l (fromN l) hlt
    have hc := all_step l (fromN l) hlt
    rw [h] at hc
    have hc2 := (Bool.and_eq_true_iff.1 hc.symm).1
    simp only [digitB, decide_eq_true_eq] at hc2
    have ht : tidy (digs (l.drop (fromN l))) := by
      intro x r e
      rw [hst] at e
      have := (List.append_inj' e rfl).2
      simp only [List.cons.injEq, and_true] at this
      omega
    have hne : digs (l.drop (fromN l)) ≠ [] := by rw [hst]; simp
    have h0 : numFrom 0 (l.drop (fromN l)) ≠ 0 := by
      rw [← digs_val]; exact fun e => hne ((tidy_zero ht).1 e)
    rw [valB_sgv, itoa_of (digs_10 h) ht (by rw [sgv_abs, digs_val]) hne, sgv_neg _ _ h0, txt, dig_back _ h, pre_drop]
theorem text_lim {l : List UInt8} (h : isTextB l = true) (hl : l.length ≤ 100) : (valB l).natAbs < lim := by
  have hlt := from_lt h
  have hd : (l.drop (fromN l)).all digitB = true := by rw [← bare_drop]; exact (bare_digits h).2
  rw [valB_sgv, sgv_abs, ← digs_val]
  have h1 := valD_lt (digs_10 hd)
  rw [digs_len, List.length_drop] at h1
  unfold lim
  exact Nat.lt_of_lt_of_le h1 (Nat.pow_le_pow_right (by omega) (by omega))
end Go.Proofs.YtjgaoajbcbpbbaaDoor
