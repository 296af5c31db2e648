/- The text of a civil day, and which texts are those of one: no program is in it. -/
import Derived.Test.YtiemlpmhhbmfiaaGreatDoorQIParse
import Derived.Test.YtiemlpmhhbmfiaaGreatDoorCivRef
namespace Go.Proofs.YtiemlpmhhbmfiaaGreatDoor

def padd (l : List UInt8) : List UInt8 := List.replicate (4 - l.length) 48 ++ l
def ytx (y : Int) : List UInt8 := preB (decide (y < 0)) ++ padd (Lib.decDigits y.natAbs)
def two2 (n : Nat) : List UInt8 := [UInt8.ofNat (48 + n / 10), UInt8.ofNat (48 + n % 10)]
def ctx (y m d : Int) : List UInt8 := ytx y ++ (45 :: (two2 m.toNat ++ (45 :: two2 d.toNat)))
def civS (y m d : Int) : ByteArray := ⟨(ctx y m d).toArray⟩

theorem numFrom_zeros (k : Nat) (l : List UInt8) : numFrom 0 (List.replicate k 48 ++ l) = numFrom 0 l := by
  induction k with
  | zero => rfl
  | succ k ih => rw [List.replicate_succ, List.cons_append]; exact ih
theorem dec_one {c : UInt8} (h : 48 ≤ c.toNat ∧ c.toNat ≤ 57) : Lib.decDigits (c.toNat - 48) = [c] := by
  rw [Lib.decDigits, dif_pos (by omega)]
  congr 1
  apply UInt8.toNat_inj.1
  rw [UInt8.toNat_ofNat', Nat.mod_eq_of_lt (by omega)]; omega
theorem dec_snoc {q : Nat} {c : UInt8} (hq : 1 ≤ q) (h : 48 ≤ c.toNat ∧ c.toNat ≤ 57) : Lib.decDigits (q * 10 + (c.toNat - 48)) = Lib.decDigits q ++ [c] := by
  rw [Lib.decDigits, dif_neg (by omega)]
  congr 1
  · congr 1; omega
  · congr 1
    apply UInt8.toNat_inj.1
    rw [UInt8.toNat_ofNat', Nat.mod_eq_of_lt (by omega)]; omega
theorem dec_pos (n : Nat) : 1 ≤ (Lib.decDigits n).length := by
  have := dec_ne n
  cases h : Lib.decDigits n with
  | nil => exact absurd h this
  | cons => simp
/-- Digits are those of their number, with zeros ahead. -/
theorem pad_back (l : List UInt8) (c : UInt8) (h : (l ++ [c]).all digitB = true) :
    (Lib.decDigits (numFrom 0 (l ++ [c]))).length ≤ (l ++ [c]).length ∧ List.replicate ((l ++ [c]).length - (Lib.decDigits (numFrom 0 (l ++ [c]))).length) 48 ++ Lib.decDigits (numFrom 0 (l ++ [c])) = l ++ [c] := by
  induction hn : l.length generalizing l c with
  | zero =>
    obtain rfl : l = [] := List.eq_nil_of_length_eq_zero hn
    have hc : 48 ≤ c.toNat ∧ c.toNat ≤ 57 := by simpa [digitB] using h
    rw [numFrom_snoc]
    simp only [numFrom, List.foldl_nil, Nat.zero_mul, Nat.zero_add]
    rw [dec_one hc]; simp
  | succ k ih =>
    obtain ⟨r, x, rfl⟩ : ∃ r x, l = r ++ [x] := ⟨l.dropLast, l.getLast (by intro e; subst e; simp at hn), (List.dropLast_concat_getLast _).symm⟩
    rw [List.all_append, Bool.and_eq_true] at h
    have hc : 48 ≤ c.toNat ∧ c.toNat ≤ 57 := by simpa [digitB] using h.2
    obtain ⟨h1, h2⟩ := ih r x h.1 (by simpa using hn)
    rw [numFrom_snoc]
    generalize r ++ [x] = l at *
    rcases Nat.eq_zero_or_pos (numFrom 0 l) with h0 | h0
    · rw [h0] at h1 h2 ⊢
      rw [show 0 * 10 + (c.toNat - 48) = c.toNat - 48 by omega, dec_one hc]
      have hd : Lib.decDigits 0 = [48] := by rw [Lib.decDigits]; rfl
      rw [hd] at h1 h2
      refine ⟨by simp, ?_⟩
      have e : List.replicate (l.length - 1) 48 ++ [48] = List.replicate l.length (48 : UInt8) := by
        rw [← List.replicate_succ']; congr 1; simp only [List.length_singleton] at h1; omega
      simp only [List.length_singleton] at h2
      rw [e] at h2
      simp only [List.length_append, List.length_singleton, Nat.add_sub_cancel]
      rw [h2]
    · rw [dec_snoc h0 hc]
      simp only [List.length_append, List.length_singleton]
      refine ⟨by omega, ?_⟩
      rw [show l.length + 1 - ((Lib.decDigits (numFrom 0 l)).length + 1) = l.length - (Lib.decDigits (numFrom 0 l)).length by omega, ← List.append_assoc, h2]
/-- Four digits, or more that begin with no zero, are the year's. -/
theorem padd_back {b : List UInt8} (h : b.all digitB = true) (h4 : 4 ≤ b.length) (hz : 4 < b.length → b.head? ≠ some 48) : padd (Lib.decDigits (numFrom 0 b)) = b := by
  obtain ⟨r, x, rfl⟩ : ∃ r x, b = r ++ [x] := ⟨b.dropLast, b.getLast (by intro e; subst e; simp at h4), (List.dropLast_concat_getLast _).symm⟩
  obtain ⟨h1, h2⟩ := pad_back r x h
  generalize r ++ [x] = b at *
  unfold padd
  rcases Nat.lt_or_ge 4 b.length with h5 | h5
  · have hh := hz h5
    have e : b.length - (Lib.decDigits (numFrom 0 b)).length = 0 := by
      rcases Nat.eq_zero_or_pos (b.length - (Lib.decDigits (numFrom 0 b)).length) with q | q
      · exact q
      · exfalso
        obtain ⟨k, hk⟩ : ∃ k, b.length - (Lib.decDigits (numFrom 0 b)).length = k + 1 := ⟨_, (Nat.succ_pred_eq_of_pos q).symm⟩
        rw [hk, List.replicate_succ] at h2
        rw [← h2] at hh
        simp at hh
    rw [e] at h2
    rw [show 4 - (Lib.decDigits (numFrom 0 b)).length = 0 by omega]
    exact h2
  · rw [show 4 = b.length by omega]; exact h2

def yOk (l : List UInt8) : Bool := decide (4 ≤ (bare l).length) && (bare l).all digitB && !(decide (4 < (bare l).length) && decide ((bare l).head? = some 48)) && !(negB l && decide (bare l = [48, 48, 48, 48]))
theorem ytx_len (y : Int) : 4 ≤ (ytx y).length := by unfold ytx padd; simp; omega
theorem dec_all (n : Nat) : (Lib.decDigits n).all digitB = true := (dec_facts n).2.1
theorem padd_all (n : Nat) : (padd (Lib.decDigits n)).all digitB = true := by
  unfold padd
  rw [List.all_append, dec_all, Bool.and_true, List.all_eq_true]
  intro c hc
  rw [List.mem_replicate] at hc
  rw [hc.2]; rfl
theorem padd_cons (n : Nat) : ∃ c r, padd (Lib.decDigits n) = c :: r ∧ c ≠ 45 := by
  cases h : padd (Lib.decDigits n) with
  | nil => have : 4 ≤ (padd (Lib.decDigits n)).length := by unfold padd; simp; omega
           rw [h] at this; simp at this
  | cons c r =>
    refine ⟨c, r, rfl, fun e => ?_⟩
    have := padd_all n
    rw [h, List.all_cons, e] at this
    simp [digitB] at this
theorem ytx_bare (y : Int) : bare (ytx y) = padd (Lib.decDigits y.natAbs) ∧ negB (ytx y) = decide (y < 0) := by
  obtain ⟨c, r, h, hc⟩ := padd_cons y.natAbs
  unfold ytx preB negB
  by_cases hy : y < 0
  · rw [decide_eq_true hy]
    simp only [if_true, List.cons_append, List.nil_append]
    exact ⟨bare_minus _, hp_minus _⟩
  · rw [decide_eq_false hy]
    simp only [Bool.false_eq_true, if_false, List.nil_append]
    rw [h]
    exact ⟨bare_other r hc, hp_other r hc⟩
theorem ytx_num (y : Int) : numFrom 0 (bare (ytx y)) = y.natAbs := by
  rw [(ytx_bare y).1]; unfold padd; rw [numFrom_zeros, (dec_facts _).1]
theorem ytx_ok (y : Int) : yOk (ytx y) = true := by
  have hb := ytx_bare y
  have hn := ytx_num y
  unfold yOk
  rw [hb.1] at hn ⊢
  rw [hb.2, padd_all]
  have h4 : 4 ≤ (padd (Lib.decDigits y.natAbs)).length := by unfold padd; simp; omega
  rw [decide_eq_true h4]
  simp only [Bool.and_self, Bool.true_and, Bool.and_eq_true, Bool.not_eq_true', Bool.and_eq_false_iff, decide_eq_false_iff_not]
  constructor
  · by_cases h5 : 4 < (padd (Lib.decDigits y.natAbs)).length
    · right
      have hl : padd (Lib.decDigits y.natAbs) = Lib.decDigits y.natAbs := by
        unfold padd at h5 ⊢
        rw [List.length_append, List.length_replicate] at h5
        rw [show 4 - (Lib.decDigits y.natAbs).length = 0 by omega]; rfl
      rw [hl] at h5 ⊢
      rcases Nat.eq_zero_or_pos y.natAbs with h0 | h0
      · rw [h0] at h5; rw [Lib.decDigits] at h5; simp at h5
      · obtain ⟨c, r, e, h1, h2⟩ := (dec_facts y.natAbs).2.2 h0
        rw [e]
        intro hh
        simp only [List.head?_cons, Option.some.injEq] at hh
        rw [hh] at h1; simp at h1
    · exact .inl h5
  · by_cases hy : y < 0
    · right
      intro e
      rw [e] at hn
      have : numFrom 0 [48, 48, 48, 48] = 0 := rfl
      omega
    · exact .inl hy
theorem ytx_back {l : List UInt8} (h : yOk l = true) : ytx (sgv (negB l) (numFrom 0 (bare l))) = l := by
  unfold yOk at h
  simp only [Bool.and_eq_true, decide_eq_true_eq, Bool.not_eq_true', Bool.and_eq_false_iff, decide_eq_false_iff_not] at h
  obtain ⟨⟨⟨h1, h2⟩, h3⟩, h4⟩ := h
  have hp := padd_back h2 h1 (fun h5 e => by rcases h3 with q | q
                                             · exact q h5
                                             · exact q e)
  unfold ytx
  rw [sgv_abs, hp]
  have e : preB (decide (sgv (negB l) (numFrom 0 (bare l)) < 0)) = preB (negB l) := by
    cases hb : negB l with
    | false => rw [show sgv false (numFrom 0 (bare l)) = ((numFrom 0 (bare l) : Nat) : Int) from rfl, decide_eq_false (by omega)]
    | true =>
      have hne : numFrom 0 (bare l) ≠ 0 := by
        intro h0
        rcases h4 with q | q
        · rw [hb] at q; cases q
        · rw [h0] at hp
          have hd : Lib.decDigits 0 = [48] := by rw [Lib.decDigits]; rfl
          rw [hd] at hp
          exact q (by rw [← hp]; rfl)
      rw [sgv_neg _ _ hne]
  rw [e, bare_drop]
  exact pre_drop l

def cForm (l : List UInt8) : Bool := decide (10 ≤ l.length) && decide (l[l.length - 3]? = some 45) && decide (l[l.length - 6]? = some 45) && (l.drop (l.length - 2)).all digitB && ((l.drop (l.length - 5)).take 2).all digitB && yOk (l.take (l.length - 6))
def cY (l : List UInt8) : Int := sgv (negB (l.take (l.length - 6))) (numFrom 0 (bare (l.take (l.length - 6))))
def cM (l : List UInt8) : Nat := numFrom 0 ((l.drop (l.length - 5)).take 2)
def cD (l : List UInt8) : Nat := numFrom 0 (l.drop (l.length - 2))
/-- The error of a text. -/
def cpE (l : List UInt8) : Int := if cForm l = true then cE (cY l) (cM l) (cD l) else 5
/-- What of a text is returned: v if it is right. -/
def cpV (l : List UInt8) (v : Int) : Int := if cpE l = 0 then v else 0
theorem shape6 {l : List UInt8} (h : 6 ≤ l.length) : ∃ x0 a b x3 c d, l = l.take (l.length - 6) ++ [x0, a, b, x3, c, d] := by
  have hd : (l.drop (l.length - 6)).length = 6 := by rw [List.length_drop]; omega
  have e := (List.take_append_drop (l.length - 6) l).symm
  match hx : l.drop (l.length - 6), hd with
  | [x0, a, b, x3, c, d], _ => rw [hx] at e; exact ⟨x0, a, b, x3, c, d, e⟩
section
variable (y : List UInt8) (x0 a b x3 c d : UInt8)
theorem sh_take : (y ++ [x0, a, b, x3, c, d]).take ((y ++ [x0, a, b, x3, c, d]).length - 6) = y := by simp
theorem sh_d2 : (y ++ [x0, a, b, x3, c, d]).drop ((y ++ [x0, a, b, x3, c, d]).length - 2) = [c, d] := by
  rw [show (y ++ [x0, a, b, x3, c, d]).length - 2 = y.length + 4 by simp, List.drop_append]; simp
theorem sh_d5 : ((y ++ [x0, a, b, x3, c, d]).drop ((y ++ [x0, a, b, x3, c, d]).length - 5)).take 2 = [a, b] := by
  rw [show (y ++ [x0, a, b, x3, c, d]).length - 5 = y.length + 1 by simp, List.drop_append, List.drop_of_length_le (by omega)]; simp
theorem sh_3 : (y ++ [x0, a, b, x3, c, d])[(y ++ [x0, a, b, x3, c, d]).length - 3]? = some x3 := by
  rw [show (y ++ [x0, a, b, x3, c, d]).length - 3 = y.length + 3 by simp, List.getElem?_append_right (by omega)]; simp
theorem sh_6 : (y ++ [x0, a, b, x3, c, d])[(y ++ [x0, a, b, x3, c, d]).length - 6]? = some x0 := by
  rw [show (y ++ [x0, a, b, x3, c, d]).length - 6 = y.length by simp, List.getElem?_append_right (by omega)]; simp
theorem sh_form : cForm (y ++ [x0, a, b, x3, c, d]) = (decide (4 ≤ y.length) && decide (x3 = 45) && decide (x0 = 45) && (digitB c && digitB d) && (digitB a && digitB b) && yOk y) := by
  unfold cForm
  rw [sh_take, sh_d2, sh_d5, sh_3, sh_6]
  have e : decide (10 ≤ (y ++ [x0, a, b, x3, c, d]).length) = decide (4 ≤ y.length) := by simp
  rw [e]
  simp
theorem sh_Y : cY (y ++ [x0, a, b, x3, c, d]) = sgv (negB y) (numFrom 0 (bare y)) := by unfold cY; rw [sh_take]
theorem sh_M : cM (y ++ [x0, a, b, x3, c, d]) = (a.toNat - 48) * 10 + (b.toNat - 48) := by unfold cM; rw [sh_d5]; simp [numFrom]
theorem sh_D : cD (y ++ [x0, a, b, x3, c, d]) = (c.toNat - 48) * 10 + (d.toNat - 48) := by unfold cD; rw [sh_d2]; simp [numFrom]
end
theorem dig_of {n : Nat} (h : n ≤ 9) : digitB (UInt8.ofNat (48 + n)) = true ∧ (UInt8.ofNat (48 + n)).toNat = 48 + n := by
  have : (UInt8.ofNat (48 + n)).toNat = 48 + n := by rw [UInt8.toNat_ofNat', Nat.mod_eq_of_lt (by omega)]
  exact ⟨by unfold digitB; rw [this, decide_eq_true_eq]; omega, this⟩
theorem ctx_shape (y m d : Int) : ctx y m d = ytx y ++ [45, UInt8.ofNat (48 + m.toNat / 10), UInt8.ofNat (48 + m.toNat % 10), 45, UInt8.ofNat (48 + d.toNat / 10), UInt8.ofNat (48 + d.toNat % 10)] := rfl
/-- The text of a right civil day is read as that day. -/
theorem ctx_reads {y m d : Int} (h : cE y m d = 0) : cpE (ctx y m d) = 0 ∧ cY (ctx y m d) = y ∧ (cM (ctx y m d) : Int) = m ∧ (cD (ctx y m d) : Int) = d := by
  obtain ⟨h1, h2, h3⟩ := cE_zero.1 h
  obtain ⟨hy, hm⟩ := mE_zero.1 h1
  rw [mo_iff] at hm
  have hl := mlen_bd y m
  obtain ⟨q1, e1⟩ := dig_of (n := m.toNat / 10) (by omega)
  obtain ⟨q2, e2⟩ := dig_of (n := m.toNat % 10) (by omega)
  obtain ⟨q3, e3⟩ := dig_of (n := d.toNat / 10) (by omega)
  obtain ⟨q4, e4⟩ := dig_of (n := d.toNat % 10) (by omega)
  have hY : cY (ctx y m d) = y := by
    rw [ctx_shape, sh_Y, ytx_num, (ytx_bare y).2]
    unfold sgv
    by_cases hy0 : y < 0
    · simp [hy0]; omega
    · simp [hy0]; omega
  have hM : (cM (ctx y m d) : Int) = m := by rw [ctx_shape, sh_M, e1, e2]; omega
  have hD : (cD (ctx y m d) : Int) = d := by rw [ctx_shape, sh_D, e3, e4]; omega
  refine ⟨?_, hY, hM, hD⟩
  unfold cpE
  rw [hY, hM, hD, if_pos, h]
  rw [ctx_shape, sh_form, q1, q2, q3, q4, ytx_ok, decide_eq_true (ytx_len y)]; rfl
/-- A text that has the form is that of what it is read as. -/
theorem ctx_back {l : List UInt8} (h : cForm l = true) : ctx (cY l) (cM l) (cD l) = l := by
  have h6 : 6 ≤ l.length := by
    unfold cForm at h
    simp only [Bool.and_eq_true, decide_eq_true_eq] at h
    omega
  obtain ⟨x0, a, b, x3, c, d, e⟩ := shape6 h6
  generalize l.take (l.length - 6) = y at e
  subst e
  rw [sh_form] at h
  simp only [Bool.and_eq_true, decide_eq_true_eq] at h
  obtain ⟨⟨⟨⟨⟨_, h3⟩, h0⟩, hc, hd⟩, ha, hb⟩, hy⟩ := h
  rw [ctx_shape, sh_Y, sh_M, sh_D, ytx_back hy, h0, h3]
  have key : ∀ p q : UInt8, digitB p = true → digitB q = true → UInt8.ofNat (48 + ((((p.toNat - 48) * 10 + (q.toNat - 48) : Nat) : Int)).toNat / 10) = p ∧ UInt8.ofNat (48 + ((((p.toNat - 48) * 10 + (q.toNat - 48) : Nat) : Int)).toNat % 10) = q := fun p q hp hq => by
    unfold digitB at hp hq
    rw [decide_eq_true_eq] at hp hq
    constructor
    · apply UInt8.toNat_inj.1
      rw [UInt8.toNat_ofNat', Nat.mod_eq_of_lt (by omega)]; omega
    · apply UInt8.toNat_inj.1
      rw [UInt8.toNat_ofNat', Nat.mod_eq_of_lt (by omega)]; omega
  rw [(key a b ha hb).1, (key a b ha hb).2, (key c d hc hd).1, (key c d hc hd).2]
end Go.Proofs.YtiemlpmhhbmfiaaGreatDoor
