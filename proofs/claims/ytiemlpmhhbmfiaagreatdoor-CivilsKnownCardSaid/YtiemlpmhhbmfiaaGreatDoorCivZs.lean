/- Package civils: what Parse cuts a text into: isDigits, cutPart, throw. -/
import Derived.Test.YtiemlpmhhbmfiaaGreatDoorCivCs
import Derived.WalkLawsBesides
import Derived.Recover
import Derived.BigQuiet
namespace Go.Proofs.YtiemlpmhhbmfiaaGreatDoor
open Go.RowKit Go.Shelf

set_option maxHeartbeats 400000 in
theorem isdig_any (s : ByteArray) (w : World) (hs : s.size ≤ 281474976710656) :
    Calls Tryz.prog 79 #[.string s] w fun e w' => e = .returned (.bool (allDig s)) ∧ w = w' := by
  go_enter Tryz.func79, Tryz.ntmps79
  go_wp2
  go_loop [6] (fun i => ∃ k : Nat, k ≤ s.size ∧ i = .int .i64 k ∧ Hid ((s.data.toList.take k).all digitB = true)) (fun i => s.size - (intOf i).toNat)
  case atStart => exact ⟨0, Nat.zero_le _, rfl, Lib.hid (by simp)⟩
  case round =>
    obtain ⟨k, hk, rfl, hall⟩ := hrel
    by_cases hlt : k < s.size
    · have hsn := all_take_snoc s k hlt
      have hnot := all_take_not s k hlt
      by_cases hd1 : 48 ≤ (s[k].toNat : Int) ∧ (s[k].toNat : Int) ≤ 57
      · have HN : Hid ((s.data.toList.take (k + 1)).all digitB = true) := by
          show _ = _
          rw [hsn, hall.out, digitB_of hd1]; rfl
        obtain ⟨hx, hy⟩ := hd1
        clear hsn hnot
        go_wp2
        go_round
        case rel => exact ⟨k + 1, by omega, by go_num, HN⟩
        case measure => simp [intOf]; omega
      · have HN : Hid (allDig s = false) := hnot (digitB_not hd1)
        clear hsn hnot
        by_cases hx : (s[k].toNat : Int) < 48
        all_goals
          try have hy : 57 < (s[k].toNat : Int) := by omega
          clear hd1
          go_wp2
          go_ret
          exact ⟨ret_b HN.out.symm, rfl⟩
    · have hke : k = s.size := by omega
      have HN : Hid (allDig s = true) := by
        have := hall.out
        show s.data.toList.all digitB = true
        rwa [List.take_of_length_le (by rw [hke, size_l]; exact Nat.le_refl _)] at this
      clear hke
      go_wp2
      go_ret
      exact ⟨ret_b HN.out.symm, rfl⟩

/-- An error that is thrown. -/
def thrown (e : Int) : List PanicEntry := [{ v := .iface 24 (.int .i64 e), recovered := false }]
theorem throw_ok (w : World) : Calls Tryz.prog 53 #[.int .i64 0] w fun e w' => e = .returned (.tuple #[]) ∧ w = w' := by
  go_enter Tryz.func53, Tryz.ntmps53
  go_wp2
  go_end0
  exact ⟨rfl, rfl⟩
theorem throw_bad (e : Int) (h : e ≠ 0) (w : World) : Calls Tryz.prog 53 #[.int .i64 e] w fun x w' => x = .panicked (thrown e) ∧ w = w' := by
  have h1 : (e != 0) = true := by simp [h]
  go_enter Tryz.func53, Tryz.ntmps53
  go_wp2
  exact ⟨rfl, rfl, rfl⟩

/-- What is left of a text, in memory. -/
def BkS (w : World) (g : Nat) (s : ByteArray) : Prop := w.heap[g]? = some (.cells #[.string s] 78 (0, 0))
theorem BkS.cell {w : World} {g : Nat} {s : ByteArray} (h : BkS w g s) : w.cell? ⟨g, 0, none⟩ = some (.string s) := cell_of_row w g 0 _ _ _ h
theorem BkS.frozen {w : World} {g : Nat} {s : ByteArray} (h : BkS w g s) : w.frozen? ⟨g, 0, none⟩ = false := frozen_of_row w g 0 _ _ h
theorem BkS.new (w : World) (s : ByteArray) : BkS (w.alloc (.cells #[.string s] 78)) w.heap.size s := heap_alloc_new w _
theorem BkS.below {w w' : World} {g B : Nat} {s : ByteArray} (h : BkS w g s) (hg : g < B) (hb : Below B w w') : BkS w' g s := (hb.block g hg).trans h
theorem BkS.store {w : World} {g : Nat} {s : ByteArray} (h : BkS w g s) (r : ByteArray) : BkS (w.setCell ⟨g, 0, none⟩ (.string r)) g r := heap_setCell_same w g 0 _ _ _ h
set_option maxHeartbeats 800000 in
set_option maxRecDepth 100000 in
theorem cut_ok (g : Nat) (s A B R : ByteArray) (w : World) (hK : BkS w g s) (hs : s.size ≤ 281474976710656) (h3 : 3 ≤ s.size) (hA : s.extract 0 (s.size - 2) = A) (hB : s.extract (s.size - 2) s.size = B) (hR : s.extract 0 (s.size - 3) = R)
    (h45 : Lib.hasSuffix A.data.toList [45] = true) (hd : allDig B = true) (a b : Nat) (ha : a ≤ 9) (hb : b ≤ 9) (h1 : s[s.size - 2].toNat = 48 + a) (h2 : s[s.size - 1].toNat = 48 + b) :
    Calls Tryz.prog 51 #[.pointer (some ⟨g, 0, none⟩)] w fun e w' => e = .returned (.int .i64 ((a : Int) * 10 + b)) ∧ (BkS w' g R ∧ Below g w w' ∧ w'.heap.size = w.heap.size) := by
  have f0 := hK.cell
  have z0 := hK.frozen
  have HA := Lib.hid (fun X => Any.strings_HasSuffix Tryz.lays100 A ⟨#[45]⟩ X (by rw [← hA, ByteArray.size_extract]; omega))
  have HD := Lib.hid (fun X => isdig_any B X (by rw [← hB, ByteArray.size_extract]; omega))
  go_enter Tryz.func51, Tryz.ntmps51
  go_upto_region 3 with fail
  have q1 : ¬ ((s.size : Int) - 2 < 0) := by omega
  rw [h45] at HA
  rw [hd] at HD
  go_upto_region 6 with (first
    | (go_at_call 78; refine (HA.out _).mono ?_; rintro e w1 ⟨rfl, rfl⟩)
    | (go_at_call 79; refine (HD.out _).mono ?_; rintro e w1 ⟨rfl, rfl⟩))
  have HK := Lib.hid hK
  have HR : Hid (s.extract 0 (s.size - 2 - 1) = R) := by show _ = _; rw [← hR]; congr 1
  clear HA HD hA hB hR q1 hK
  have i1 : 0 ≤ (s.size : Int) - 2 ∧ (s.size : Int) - 2 < s.size := by omega
  have i2 : 0 ≤ (s.size : Int) - 2 + 1 ∧ (s.size : Int) - 2 + 1 < s.size := by omega
  have i3 : ((s.size : Int) - 2).toNat = s.size - 2 := by omega
  have i4 : ((s.size : Int) - 2 + 1).toNat = s.size - 1 := by omega
  go_region
  go_wp2_with fail
  go_ret
  exact ⟨ret_i (by omega), by rw [← HR.out]; exact HK.out.store _, ((Below.refl g w1).setCell (p := ⟨g, 0, none⟩) (Nat.le_refl _) _).trans ⟨rfl, rfl, rfl, Nat.le_refl _, fun _ _ => rfl⟩, by simp⟩

theorem cut_bad (g : Nat) (s : ByteArray) (w : World) (hK : BkS w g s) (hs : s.size ≤ 281474976710656)
    (h : s.size < 2 ∨ (2 ≤ s.size ∧ (Lib.hasSuffix (s.extract 0 (s.size - 2)).data.toList [45] = false ∨ (Lib.hasSuffix (s.extract 0 (s.size - 2)).data.toList [45] = true ∧ allDig (s.extract (s.size - 2) s.size) = false)))) :
    Calls Tryz.prog 51 #[.pointer (some ⟨g, 0, none⟩)] w fun e w' => e = .panicked (thrown 5) ∧ w = w' := by
  have f0 := hK.cell
  clear hK
  rcases h with h2 | ⟨h2, h⟩
  · have q1 : (s.size : Int) - 2 < 0 := by omega
    go_enter Tryz.func51, Tryz.ntmps51
    go_wp2_with fail
    exact ⟨rfl, rfl, rfl⟩
  · obtain ⟨A, hA⟩ : ∃ A, s.extract 0 (s.size - 2) = A := ⟨_, rfl⟩
    obtain ⟨B, hB⟩ : ∃ B, s.extract (s.size - 2) s.size = B := ⟨_, rfl⟩
    have HA := Lib.hid (fun X => Any.strings_HasSuffix Tryz.lays100 A ⟨#[45]⟩ X (by rw [← hA, ByteArray.size_extract]; omega))
    have HD := Lib.hid (fun X => isdig_any B X (by rw [← hB, ByteArray.size_extract]; omega))
    rw [show (⟨#[45]⟩ : ByteArray).data.toList = [45] from rfl] at HA
    rw [hA, hB] at h
    have q1 : ¬ ((s.size : Int) - 2 < 0) := by omega
    rcases h with h | ⟨h, hd⟩
    · rw [h] at HA
      clear HD
      go_enter Tryz.func51, Tryz.ntmps51
      go_wp2_with (go_at_call 78; refine (HA.out _).mono ?_; rintro e w1 ⟨rfl, rfl⟩)
      exact ⟨rfl, rfl, rfl⟩
    · rw [h] at HA
      rw [hd] at HD
      go_enter Tryz.func51, Tryz.ntmps51
      go_wp2_with (first
        | (go_at_call 78; refine (HA.out _).mono ?_; rintro e w1 ⟨rfl, rfl⟩)
        | (go_at_call 79; refine (HD.out _).mono ?_; rintro e w1 ⟨rfl, rfl⟩))
      exact ⟨rfl, rfl, rfl⟩
end Go.Proofs.YtiemlpmhhbmfiaaGreatDoor
/- Package civils: the number of a year's text. -/
namespace Go.Proofs.YtiemlpmhhbmfiaaGreatDoor
open Go.RowKit Go.Shelf

/-- The digits of a year's text are four, or more that begin with no zero. -/
def yGood (b : List UInt8) : Bool := decide (4 ≤ b.length) && b.all digitB && !(decide (4 < b.length) && decide (b.head? = some 48))
theorem yOk_good (l : List UInt8) : yOk l = (yGood (bare l) && !(negB l && decide (bare l = [48, 48, 48, 48]))) := by
  unfold yOk yGood
  simp only [Bool.and_assoc]
theorem numFrom_cons (x : UInt8) (t : List UInt8) : numFrom 0 (x :: t) = numFrom (x.toNat - 48) t := by simp [numFrom]
/-- The digits of a number without zeros ahead, but for the last one. -/
theorem trim_facts (c : UInt8) (hc : digitB c = true) : ∀ r : List UInt8, r.all digitB = true →
    (r.dropWhile (· == 48) ++ [c]).all digitB = true ∧ numFrom 0 (r.dropWhile (· == 48) ++ [c]) = numFrom 0 (r ++ [c]) ∧ ((r.dropWhile (· == 48) ++ [c]).head? = some 48 → r.dropWhile (· == 48) ++ [c] = [48]) := by
  intro r
  induction r with
  | nil =>
    intro _
    refine ⟨by simp [hc], rfl, fun h => ?_⟩
    simp only [List.dropWhile_nil, List.nil_append, List.head?_cons, Option.some.injEq] at h
    simp [h]
  | cons x r ih =>
    intro h
    simp only [List.all_cons, Bool.and_eq_true] at h
    by_cases hx : x = 48
    · subst hx
      have e : List.dropWhile (· == 48) ((48 : UInt8) :: r) = r.dropWhile (· == 48) := by simp
      rw [e]
      obtain ⟨h1, h2, h3⟩ := ih h.2
      refine ⟨h1, ?_, h3⟩
      rw [h2, List.cons_append, numFrom_cons]; rfl
    · have e : List.dropWhile (· == 48) (x :: r) = x :: r := by simp [hx]
      rw [e]
      refine ⟨by simp [h.1, h.2, hc], rfl, fun hh => ?_⟩
      simp at hh
      exact absurd hh hx
theorem num_zero {l : List UInt8} (ha : l.all digitB = true) (h : l.head? = some 48 → l = [48]) (hne : l ≠ []) : numFrom 0 l = 0 ↔ l = [48] := by
  constructor
  · intro h0
    match l, hne with
    | x :: t, _ =>
      apply h
      rw [numFrom_cons] at h0
      have := numFrom_ge t (x.toNat - 48)
      simp only [List.all_cons, Bool.and_eq_true] at ha
      have hd : 48 ≤ x.toNat ∧ x.toNat ≤ 57 := by simpa [digitB] using ha.1
      simp only [List.head?_cons, Option.some.injEq]
      apply UInt8.toNat_inj.1
      show x.toNat = 48
      omega
  · rintro rfl; rfl
theorem num_text (neg : Bool) (r : List UInt8) (c : UInt8) (h : (r ++ [c]).all digitB = true) :
    (neg = true ∧ numFrom 0 (r ++ [c]) = 0 → isTextB (preB neg ++ (r.dropWhile (· == 48) ++ [c])) = false) ∧
    (¬ (neg = true ∧ numFrom 0 (r ++ [c]) = 0) → isTextB (preB neg ++ (r.dropWhile (· == 48) ++ [c])) = true ∧ valB (preB neg ++ (r.dropWhile (· == 48) ++ [c])) = sgv neg (numFrom 0 (r ++ [c]))) := by
  rw [List.all_append, Bool.and_eq_true] at h
  obtain ⟨h1, h2, h3⟩ := trim_facts c (by simpa using h.2) r h.1
  rw [← h2]
  have hne : r.dropWhile (· == 48) ++ [c] ≠ [] := by simp
  generalize r.dropWhile (· == 48) ++ [c] = N at *
  have hz := num_zero h1 h3 hne
  rw [hz]
  match N, hne with
  | x :: t, _ =>
    simp only [List.all_cons, Bool.and_eq_true] at h1
    have hd : 48 ≤ x.toNat ∧ x.toNat ≤ 57 := by simpa [digitB] using h1.1
    have h45 : x ≠ 45 := fun e => by rw [e] at hd; simp at hd
    cases neg with
    | true =>
      have e : preB true ++ x :: t = 45 :: x :: t := rfl
      rw [e]
      constructor
      · rintro ⟨_, h0⟩
        rw [h0]; rfl
      · intro hn
        have hn' : ¬ (x :: t = [48]) := fun q => hn ⟨rfl, q⟩
        have hx : ¬ x.toNat = 48 := fun q => hn' (h3 (by simp only [List.head?_cons, Option.some.injEq]; exact UInt8.toNat_inj.1 q))
        refine ⟨?_, ?_⟩
        · unfold isTextB; rw [bare_minus]; simp only [if_neg hx, List.all_cons, h1.1, h1.2, Bool.and_self]
        · unfold valB; rw [bare_minus, hp_minus]; rfl
    | false =>
      have e : preB false ++ x :: t = x :: t := rfl
      rw [e]
      refine ⟨fun q => by simp at q, fun _ => ⟨?_, ?_⟩⟩
      · unfold isTextB
        rw [bare_other t h45]
        by_cases hx : x.toNat = 48
        · have hx' : x = 48 := UInt8.toNat_inj.1 hx
          have := h3 (by simp [hx'])
          simp only [if_pos hx]; rw [this]; rfl
        · simp only [if_neg hx, List.all_cons, h1.1, h1.2, Bool.and_self]
      · unfold valB; rw [bare_other t h45, hp_other t h45]; rfl
theorem four_zero {b : List UInt8} (h : yGood b = true) : numFrom 0 b = 0 ↔ b = [48, 48, 48, 48] := by
  unfold yGood at h
  simp only [Bool.and_eq_true, decide_eq_true_eq, Bool.not_eq_true', Bool.and_eq_false_iff, decide_eq_false_iff_not] at h
  obtain ⟨⟨h4, hd⟩, hz⟩ := h
  constructor
  · intro h0
    rcases Nat.lt_or_ge 4 b.length with h5 | h5
    · have hh : b.head? ≠ some 48 := fun e => by
        rcases hz with q | q
        · exact q h5
        · exact q e
      match b, h4 with
      | x :: t, _ =>
        exfalso
        rw [numFrom_cons] at h0
        have := numFrom_ge t (x.toNat - 48)
        simp only [List.all_cons, Bool.and_eq_true] at hd
        have hd1 : 48 ≤ x.toNat ∧ x.toNat ≤ 57 := by simpa [digitB] using hd.1
        apply hh
        simp only [List.head?_cons, Option.some.injEq]
        apply UInt8.toNat_inj.1
        show x.toNat = 48
        omega
    · match b, (show b.length = 4 by omega) with
      | [x, y, z, u], _ =>
        simp only [List.all_cons, List.all_nil, Bool.and_eq_true, Bool.and_true, digitB, decide_eq_true_eq] at hd
        simp only [numFrom, List.foldl_cons, List.foldl_nil] at h0
        have ex : x = 48 := UInt8.toNat_inj.1 (show x.toNat = 48 by omega)
        have ey : y = 48 := UInt8.toNat_inj.1 (show y.toNat = 48 by omega)
        have ez : z = 48 := UInt8.toNat_inj.1 (show z.toNat = 48 by omega)
        have eu : u = 48 := UInt8.toNat_inj.1 (show u.toNat = 48 by omega)
        rw [ex, ey, ez, eu]
  · rintro rfl; rfl

/-- The number of a year's text. -/
def yNum (l : List UInt8) : Int := sgv (negB l) (numFrom 0 (bare l))
/-- How the number of a year's text is read as a text of a number. -/
theorem year_text {l : List UInt8} (h : yGood (bare l) = true) (r : List UInt8) (c : UInt8) (e : bare l = r ++ [c]) :
    (yOk l = false → isTextB (preB (negB l) ++ (r.dropWhile (· == 48) ++ [c])) = false) ∧
    (yOk l = true → isTextB (preB (negB l) ++ (r.dropWhile (· == 48) ++ [c])) = true ∧ valB (preB (negB l) ++ (r.dropWhile (· == 48) ++ [c])) = yNum l) := by
  have hz := four_zero h
  have hd : (r ++ [c]).all digitB = true := by
    rw [← e]
    unfold yGood at h
    simp only [Bool.and_eq_true] at h
    exact h.1.2
  obtain ⟨n1, n2⟩ := num_text (negB l) r c hd
  unfold yNum
  rw [yOk_good, h, e]
  rw [e] at hz
  simp only [Bool.true_and]
  constructor
  · intro q
    simp only [Bool.not_eq_false', Bool.and_eq_true, decide_eq_true_eq] at q
    exact n1 ⟨q.1, hz.2 q.2⟩
  · intro q
    simp only [Bool.not_eq_true', Bool.and_eq_false_iff, decide_eq_false_iff_not] at q
    refine n2 fun ⟨q1, q2⟩ => ?_
    rcases q with q | q
    · rw [q1] at q; cases q
    · exact q (hz.1 q2)
end Go.Proofs.YtiemlpmhhbmfiaaGreatDoor
/- Package civils: the year of what is left of a text. -/
namespace Go.Proofs.YtiemlpmhhbmfiaaGreatDoor
open Go.RowKit Go.Shelf

theorem dig0 {d : ByteArray} (h : 0 < d.size) {c : UInt8} {r : List UInt8} (e : d.data.toList = c :: r) : d[0] = c := by
  have : d[0] = d.data.toList[0]'(by simpa using h) := rfl
  rw [this]; simp only [e, List.getElem_cons_zero]
set_option maxHeartbeats 800000 in
set_option maxRecDepth 100000 in
theorem year_bad (s : ByteArray) (w : World) (hs : s.size ≤ 281474976710656) (h : yGood (bare s.data.toList) = false) :
    Calls Tryz.prog 52 #[.string s] w fun e w' => e = .panicked (thrown 5) ∧ w = w' := by
  obtain ⟨D, hD⟩ : ∃ D : ByteArray, D = ⟨(bare s.data.toList).toArray⟩ := ⟨_, rfl⟩
  have hDl : D.data.toList = bare s.data.toList := by rw [hD]
  have HC : Hid (∀ X, Calls Tryz.prog 80 #[.string s, .string ⟨#[45]⟩] X fun e w' => e = .returned (.tuple #[.string D, .bool (negB s.data.toList)]) ∧ X = w') := fun X => by
    rw [hD]
    exact (Any.strings_CutPrefix Tryz.lays103 s ⟨#[45]⟩ X).mono fun _ _ ⟨h1, h2⟩ => ⟨h1, h2.symm⟩
  have hDs : D.size = (bare s.data.toList).length := by rw [hD]; show (bare s.data.toList).toArray.size = _; simp
  have hle : D.size ≤ s.size := by
    rw [hDs, size_l]
    unfold bare Lib.trimPrefix
    split
    · rw [List.length_drop]; omega
    · exact Nat.le_refl _
  have HD := Lib.hid (fun X => isdig_any D X (by omega))
  have hall : allDig D = (bare s.data.toList).all digitB := by unfold allDig; rw [hDl]
  rw [hall] at HD
  clear hall
  generalize negB s.data.toList = neg at *
  unfold yGood at h
  rw [Bool.and_eq_false_iff, Bool.and_eq_false_iff] at h
  rcases Nat.lt_or_ge D.size 4 with h4 | h4
  · have q1 : ¬ 4 < (D.size : Int) := by omega
    have q2 : (D.size : Int) < 4 := by omega
    clear h hD hDl hDs HD hle hs
    go_enter Tryz.func52, Tryz.ntmps52
    go_wp2_with (go_at_call 80; refine (HC.out _).mono ?_; rintro e w1 ⟨rfl, rfl⟩)
    exact ⟨rfl, rfl, rfl⟩
  · have q2 : ¬ (D.size : Int) < 4 := by omega
    by_cases h5 : D.size = 4
    · have q1 : ¬ 4 < (D.size : Int) := by omega
      have hd : (bare s.data.toList).all digitB = false := by
        rcases h with (h | h) | h
        · rw [decide_eq_false_iff_not] at h; omega
        · exact h
        · simp only [Bool.not_eq_false', Bool.and_eq_true, decide_eq_true_eq] at h; omega
      rw [hd] at HD
      clear h hD hDl hDs hle hs hd h5
      go_enter Tryz.func52, Tryz.ntmps52
      go_wp2_with (first
        | (go_at_call 80; refine (HC.out _).mono ?_; rintro e w1 ⟨rfl, rfl⟩)
        | (go_at_call 79; refine (HD.out _).mono ?_; rintro e w1 ⟨rfl, rfl⟩))
      exact ⟨rfl, rfl, rfl⟩
    · have q1 : 4 < (D.size : Int) := by omega
      have hp : 0 < D.size := by omega
      obtain ⟨c, r, hcr⟩ : ∃ c r, bare s.data.toList = c :: r := by
        cases hb : bare s.data.toList with
        | nil => rw [hb] at hDs; change D.size = 0 at hDs; omega
        | cons c r => exact ⟨c, r, rfl⟩
      have h0 := dig0 hp (hDl.trans hcr)
      by_cases hz : c = 48
      · have q3 : ((D[0].toNat : Int) == 48) = true := by rw [h0, hz]; rfl
        clear h hD hDl hDs hle hs h5 hcr h0 hz HD
        go_enter Tryz.func52, Tryz.ntmps52
        go_wp2_with (go_at_call 80; refine (HC.out _).mono ?_; rintro e w1 ⟨rfl, rfl⟩)
        exact ⟨rfl, rfl, rfl⟩
      · have q3 : ((D[0].toNat : Int) == 48) = false := by
          rw [h0, beq_eq_false_iff_ne]
          intro e
          exact hz (UInt8.toNat_inj.1 (by show c.toNat = 48; omega))
        have hd : (bare s.data.toList).all digitB = false := by
          rcases h with (h | h) | h
          · rw [decide_eq_false_iff_not] at h; omega
          · exact h
          · simp only [Bool.not_eq_false', Bool.and_eq_true, decide_eq_true_eq, hcr, List.head?_cons, Option.some.injEq] at h
            exact absurd h.2 hz
        rw [hd] at HD
        clear h hD hDl hDs hle hs h5 hcr h0 hz hd
        go_enter Tryz.func52, Tryz.ntmps52
        go_wp2_with (first
          | (go_at_call 80; refine (HC.out _).mono ?_; rintro e w1 ⟨rfl, rfl⟩)
          | (go_at_call 79; refine (HD.out _).mono ?_; rintro e w1 ⟨rfl, rfl⟩))
        exact ⟨rfl, rfl, rfl⟩

theorem iE_cases (l : List UInt8) : iE l = 0 ∨ iE l = 5 ∨ iE l = 15 := by
  unfold iE fitE
  split
  · split <;> simp
  · simp
/-- How the reading of a right year's text ends. -/
def yEnd (l : List UInt8) : Ending := if yOk l = true then (if -9223372036854775808 ≤ yNum l ∧ yNum l ≤ 9223372036854775807 then .returned (.int .i64 (yNum l)) else .panicked (thrown 6)) else .panicked (thrown 5)
theorem yEnd_of {l M : List UInt8} (h1 : yOk l = false → isTextB M = false) (h2 : yOk l = true → isTextB M = true ∧ valB M = yNum l) :
    (iE M = 0 ∧ yEnd l = .returned (.int .i64 (iV M))) ∨ (iE M = 5 ∧ yEnd l = .panicked (thrown 5)) ∨ (iE M = 15 ∧ yEnd l = .panicked (thrown 6)) := by
  unfold iE iV yEnd
  cases hy : yOk l
  · rw [h1 hy]; simp
  · obtain ⟨q1, q2⟩ := h2 hy
    rw [q1, q2]
    by_cases hf : -9223372036854775808 ≤ yNum l ∧ yNum l ≤ 9223372036854775807
    · rw [fitE_in hf.1 hf.2, fitV_in hf.1 hf.2]; simp [hf]
    · rw [fitE_out (by omega), fitV_out (by omega)]; simp [hf]
set_option maxHeartbeats 1600000 in
set_option maxRecDepth 100000 in
theorem year_good (s : ByteArray) (w : World) (hi : StartI w) (hs : s.size ≤ 140737488355328) (h : yGood (bare s.data.toList) = true) :
    Calls Tryz.prog 52 #[.string s] w fun e w' => e = yEnd s.data.toList ∧ Below w.heap.size w w' := by
  obtain ⟨D, hD⟩ : ∃ D : ByteArray, D = ⟨(bare s.data.toList).toArray⟩ := ⟨_, rfl⟩
  have hDl : D.data.toList = bare s.data.toList := by rw [hD]
  have HC : Hid (∀ X, Calls Tryz.prog 80 #[.string s, .string ⟨#[45]⟩] X fun e w' => e = .returned (.tuple #[.string D, .bool (negB s.data.toList)]) ∧ X = w') := fun X => by
    rw [hD]
    exact (Any.strings_CutPrefix Tryz.lays103 s ⟨#[45]⟩ X).mono fun _ _ ⟨h1, h2⟩ => ⟨h1, h2.symm⟩
  have hDs : D.size = (bare s.data.toList).length := by rw [hD]; show (bare s.data.toList).toArray.size = _; simp
  have hle : D.size ≤ s.size := by
    rw [hDs, size_l]
    unfold bare Lib.trimPrefix
    split
    · rw [List.length_drop]; omega
    · exact Nat.le_refl _
  have h' := h
  unfold yGood at h'
  simp only [Bool.and_eq_true, decide_eq_true_eq, Bool.not_eq_true', Bool.and_eq_false_iff, decide_eq_false_iff_not] at h'
  obtain ⟨⟨h4, hd⟩, hz⟩ := h'
  have HD := Lib.hid (fun X => isdig_any D X (by omega))
  have hall : allDig D = true := by unfold allDig; rw [hDl]; exact hd
  rw [hall] at HD
  clear hall
  obtain ⟨r, c, hrc⟩ : ∃ r c, bare s.data.toList = r ++ [c] := ⟨(bare s.data.toList).dropLast, (bare s.data.toList).getLast (by intro e; rw [e] at h4; simp at h4), (List.dropLast_concat_getLast _).symm⟩
  obtain ⟨t1, t2⟩ := year_text h r c hrc
  have hrl : r.length + 1 = D.size := by rw [hDs, hrc]; simp
  -- the two parts
  have hA : D.extract 0 (D.size - 1) = ⟨r.toArray⟩ := by
    refine ByteArray.ext (Array.toList_inj.1 ?_)
    rw [ByteArray.data_extract, Array.toList_extract, hDl, hrc, List.extract_eq_take_drop]
    simp [← hrl]
  have hB : D.extract (D.size - 1) D.size = ⟨#[c]⟩ := by
    refine ByteArray.ext (Array.toList_inj.1 ?_)
    rw [ByteArray.data_extract, Array.toList_extract, hDl, hrc, List.extract_eq_take_drop]
    simp [← hrl]
  obtain ⟨T, hT⟩ : ∃ T : ByteArray, T = ⟨(r.dropWhile (· == 48)).toArray⟩ := ⟨_, rfl⟩
  have hTs : T.size ≤ r.length := by
    rw [hT]
    show (r.dropWhile (· == 48)).toArray.size ≤ _
    rw [List.size_toArray]
    exact (List.dropWhile_sublist _).length_le
  have HT : Hid (∀ X, Calls Tryz.prog 81 #[.string ⟨r.toArray⟩, .string ⟨#[48]⟩] X fun e w' => e = .returned (.string T) ∧ X = w') := fun X => by
    rw [hT]
    exact (Any.strings_TrimLeft_one Tryz.lays161 ⟨r.toArray⟩ 48 (by decide) X).mono fun _ _ ⟨h1, h2⟩ => ⟨h1, h2.symm⟩
  obtain ⟨MB, hMB⟩ : ∃ MB : ByteArray, MB.data.toList = preB (negB s.data.toList) ++ (r.dropWhile (· == 48) ++ [c]) := ⟨⟨(preB (negB s.data.toList) ++ (r.dropWhile (· == 48) ++ [c])).toArray⟩, rfl⟩
  have hMs : MB.size ≤ 281474976710656 := by
    rw [size_l, hMB]
    have := (List.dropWhile_sublist (l := r) (fun x : UInt8 => x == 48)).length_le
    unfold preB
    split <;> simp <;> omega
  have KP : Hid (∀ (Z : ByteArray) X, Z = MB → Below w.heap.size w X → Calls Tryz.prog 82 #[.string Z] X fun e w' => e = .returned (.tuple #[.int .i64 (iV MB.data.toList), .int .i64 (iE MB.data.toList)]) ∧ Below w.heap.size w w') := fun Z X hZ hX => by
    subst hZ
    exact (iparse_any Z X (hi.below hX) hMs).mono fun _ _ ⟨p, q⟩ => ⟨p, hX.trans (q.mono hX.size)⟩
  rw [← hMB] at t1 t2
  have hend := yEnd_of t1 t2
  have M1 : negB s.data.toList = true → (⟨#[45]⟩ : ByteArray) ++ (T ++ ⟨#[c]⟩) = MB := fun hn => by
    refine ByteArray.ext (Array.toList_inj.1 ?_)
    rw [hMB, hn, hT]
    simp [preB]
  have M0 : negB s.data.toList = false → T ++ ⟨#[c]⟩ = MB := fun hn => by
    refine ByteArray.ext (Array.toList_inj.1 ?_)
    rw [hMB, hn, hT]
    simp [preB]
  obtain ⟨C, hC⟩ : ∃ C : ByteArray, C = ⟨#[c]⟩ := ⟨_, rfl⟩
  have hCs : C.size = 1 := by rw [hC]; rfl
  rw [← hC] at M1 M0 hB
  obtain ⟨A, hAe⟩ : ∃ A : ByteArray, A = ⟨r.toArray⟩ := ⟨_, rfl⟩
  rw [← hAe] at HT hA
  have k2 : ¬ 9223372036854775807 < T.size + C.size := by omega
  have k3 : (T ++ C).size = T.size + C.size := ByteArray.size_append
  have k4 : ¬ 9223372036854775807 < 1 + (T ++ C).size := by omega
  have k5 : (⟨#[45]⟩ : ByteArray).size = 1 := rfl
  have hfil : (D.size = 4 ∨ (4 < D.size ∧ ∃ hp : 0 < D.size, ((D[0].toNat : Int) == 48) = false)) := by
    rcases Nat.lt_or_ge 4 D.size with h5 | h5
    · right
      refine ⟨h5, by omega, ?_⟩
      cases r with
      | nil => simp at hrl; omega
      | cons x t =>
        rw [dig0 (by omega) (hDl.trans hrc), beq_eq_false_iff_ne]
        intro e
        rcases hz with q | q
        · omega
        · apply q
          rw [hrc]
          have : x = 48 := UInt8.toNat_inj.1 (by show x.toNat = 48; omega)
          simp [this]
    · left; omega
  have k6 : (0 : Int) ≤ (D.size : Int) - 1 := by omega
  have q2 : decide ((D.size : Int) < 4) = false := decide_eq_false (by omega)
  have k7 : (D.size : Int) - 1 ≤ (D.size : Int) := by omega
  have hA' : D.extract 0 ((D.size : Int) - 1).toNat = A := by rw [show ((D.size : Int) - 1).toNat = D.size - 1 by omega]; exact hA
  have hB' : D.extract ((D.size : Int) - 1).toNat D.size = C := by rw [show ((D.size : Int) - 1).toNat = D.size - 1 by omega]; exact hB
  have k8 : D.size ≤ 140737488355328 := by omega
  have HK : Hid ((T ++ C).size = T.size + C.size) := k3
  clear hD hDl hDs hle h hd hz hrc hMB hMs hT hTs t1 t2 hC hAe h4 hrl hs hi k3 hCs hA hB
  generalize yEnd s.data.toList = EE at *
  generalize iE MB.data.toList = IE at *
  generalize iV MB.data.toList = IV at *
  cases hn : negB s.data.toList
  · have M := Lib.hid (M0 hn)
    rw [hn] at HC
    clear M0 M1 hn k4 k5 HK
    rcases hfil with h5 | ⟨h5, hp, h48⟩
    · have q1 : decide (4 < (D.size : Int)) = false := decide_eq_false (by omega)
      clear h5
      rcases hend with ⟨rfl, rfl⟩ | ⟨rfl, rfl⟩ | ⟨rfl, rfl⟩
      · go_enter Tryz.func52, Tryz.ntmps52
        go_upto_region 6 with (first
          | (go_at_call 80; refine (HC.out _).mono ?_; rintro e w1 ⟨rfl, rfl⟩)
          | (go_at_call 79; refine (HD.out _).mono ?_; rintro e w1 ⟨rfl, rfl⟩))
        generalize (D.size : Int) - 1 = L at *
        go_region_held3 (fun _ => True) (go_keep) ((go_at_call 81; refine (HT.out _).mono ?_; rintro e w1 ⟨rfl, rfl⟩))
        go_wp2_with (first
          | (go_at_call 82; refine (KP.out _ _ M.out (by go_grown)).mono ?_; rintro e w2 ⟨rfl, hb⟩)
          | (go_at_call 53; refine (throw_ok _).mono ?_; rintro e w3 ⟨rfl, rfl⟩))
        go_ret
        exact ⟨rfl, hb⟩
      · go_enter Tryz.func52, Tryz.ntmps52
        go_upto_region 6 with (first
          | (go_at_call 80; refine (HC.out _).mono ?_; rintro e w1 ⟨rfl, rfl⟩)
          | (go_at_call 79; refine (HD.out _).mono ?_; rintro e w1 ⟨rfl, rfl⟩))
        generalize (D.size : Int) - 1 = L at *
        go_region_held3 (fun _ => True) (go_keep) ((go_at_call 81; refine (HT.out _).mono ?_; rintro e w1 ⟨rfl, rfl⟩))
        go_wp2_with (first
          | (go_at_call 82; refine (KP.out _ _ M.out (by go_grown)).mono ?_; rintro e w2 ⟨rfl, hb⟩)
          | (go_at_call 53; refine (throw_bad 5 (by decide) _).mono ?_; rintro e w3 ⟨rfl, rfl⟩))
        exact ⟨rfl, rfl, hb⟩
      · go_enter Tryz.func52, Tryz.ntmps52
        go_upto_region 6 with (first
          | (go_at_call 80; refine (HC.out _).mono ?_; rintro e w1 ⟨rfl, rfl⟩)
          | (go_at_call 79; refine (HD.out _).mono ?_; rintro e w1 ⟨rfl, rfl⟩))
        generalize (D.size : Int) - 1 = L at *
        go_region_held3 (fun _ => True) (go_keep) ((go_at_call 81; refine (HT.out _).mono ?_; rintro e w1 ⟨rfl, rfl⟩))
        go_wp2_with (first
          | (go_at_call 82; refine (KP.out _ _ M.out (by go_grown)).mono ?_; rintro e w2 ⟨rfl, hb⟩)
          | (go_at_call 53; refine (throw_bad 6 (by decide) _).mono ?_; rintro e w3 ⟨rfl, rfl⟩))
        exact ⟨rfl, rfl, hb⟩
    · have q1 : 4 < (D.size : Int) := by omega
      rcases hend with ⟨rfl, rfl⟩ | ⟨rfl, rfl⟩ | ⟨rfl, rfl⟩
      · go_enter Tryz.func52, Tryz.ntmps52
        go_upto_region 6 with (first
          | (go_at_call 80; refine (HC.out _).mono ?_; rintro e w1 ⟨rfl, rfl⟩)
          | (go_at_call 79; refine (HD.out _).mono ?_; rintro e w1 ⟨rfl, rfl⟩))
        generalize (D.size : Int) - 1 = L at *
        go_region_held3 (fun _ => True) (go_keep) ((go_at_call 81; refine (HT.out _).mono ?_; rintro e w1 ⟨rfl, rfl⟩))
        go_wp2_with (first
          | (go_at_call 82; refine (KP.out _ _ M.out (by go_grown)).mono ?_; rintro e w2 ⟨rfl, hb⟩)
          | (go_at_call 53; refine (throw_ok _).mono ?_; rintro e w3 ⟨rfl, rfl⟩))
        go_ret
        exact ⟨rfl, hb⟩
      · go_enter Tryz.func52, Tryz.ntmps52
        go_upto_region 6 with (first
          | (go_at_call 80; refine (HC.out _).mono ?_; rintro e w1 ⟨rfl, rfl⟩)
          | (go_at_call 79; refine (HD.out _).mono ?_; rintro e w1 ⟨rfl, rfl⟩))
        generalize (D.size : Int) - 1 = L at *
        go_region_held3 (fun _ => True) (go_keep) ((go_at_call 81; refine (HT.out _).mono ?_; rintro e w1 ⟨rfl, rfl⟩))
        go_wp2_with (first
          | (go_at_call 82; refine (KP.out _ _ M.out (by go_grown)).mono ?_; rintro e w2 ⟨rfl, hb⟩)
          | (go_at_call 53; refine (throw_bad 5 (by decide) _).mono ?_; rintro e w3 ⟨rfl, rfl⟩))
        exact ⟨rfl, rfl, hb⟩
      · go_enter Tryz.func52, Tryz.ntmps52
        go_upto_region 6 with (first
          | (go_at_call 80; refine (HC.out _).mono ?_; rintro e w1 ⟨rfl, rfl⟩)
          | (go_at_call 79; refine (HD.out _).mono ?_; rintro e w1 ⟨rfl, rfl⟩))
        generalize (D.size : Int) - 1 = L at *
        go_region_held3 (fun _ => True) (go_keep) ((go_at_call 81; refine (HT.out _).mono ?_; rintro e w1 ⟨rfl, rfl⟩))
        go_wp2_with (first
          | (go_at_call 82; refine (KP.out _ _ M.out (by go_grown)).mono ?_; rintro e w2 ⟨rfl, hb⟩)
          | (go_at_call 53; refine (throw_bad 6 (by decide) _).mono ?_; rintro e w3 ⟨rfl, rfl⟩))
        exact ⟨rfl, rfl, hb⟩
  · have M := Lib.hid (M1 hn)
    rw [hn] at HC
    have k9 : ¬ 9223372036854775807 < 1 + (T.size + C.size) := by rw [HK.out] at k4; exact k4
    clear M0 M1 hn HK
    rcases hfil with h5 | ⟨h5, hp, h48⟩
    · have q1 : decide (4 < (D.size : Int)) = false := decide_eq_false (by omega)
      clear h5
      rcases hend with ⟨rfl, rfl⟩ | ⟨rfl, rfl⟩ | ⟨rfl, rfl⟩
      · go_enter Tryz.func52, Tryz.ntmps52
        go_upto_region 6 with (first
          | (go_at_call 80; refine (HC.out _).mono ?_; rintro e w1 ⟨rfl, rfl⟩)
          | (go_at_call 79; refine (HD.out _).mono ?_; rintro e w1 ⟨rfl, rfl⟩))
        generalize (D.size : Int) - 1 = L at *
        go_region_held3 (fun _ => True) (go_keep) ((go_at_call 81; refine (HT.out _).mono ?_; rintro e w1 ⟨rfl, rfl⟩))
        go_wp2_with (first
          | (go_at_call 82; refine (KP.out _ _ M.out (by go_grown)).mono ?_; rintro e w2 ⟨rfl, hb⟩)
          | (go_at_call 53; refine (throw_ok _).mono ?_; rintro e w3 ⟨rfl, rfl⟩))
        go_ret
        exact ⟨rfl, hb⟩
      · go_enter Tryz.func52, Tryz.ntmps52
        go_upto_region 6 with (first
          | (go_at_call 80; refine (HC.out _).mono ?_; rintro e w1 ⟨rfl, rfl⟩)
          | (go_at_call 79; refine (HD.out _).mono ?_; rintro e w1 ⟨rfl, rfl⟩))
        generalize (D.size : Int) - 1 = L at *
        go_region_held3 (fun _ => True) (go_keep) ((go_at_call 81; refine (HT.out _).mono ?_; rintro e w1 ⟨rfl, rfl⟩))
        go_wp2_with (first
          | (go_at_call 82; refine (KP.out _ _ M.out (by go_grown)).mono ?_; rintro e w2 ⟨rfl, hb⟩)
          | (go_at_call 53; refine (throw_bad 5 (by decide) _).mono ?_; rintro e w3 ⟨rfl, rfl⟩))
        exact ⟨rfl, rfl, hb⟩
      · go_enter Tryz.func52, Tryz.ntmps52
        go_upto_region 6 with (first
          | (go_at_call 80; refine (HC.out _).mono ?_; rintro e w1 ⟨rfl, rfl⟩)
          | (go_at_call 79; refine (HD.out _).mono ?_; rintro e w1 ⟨rfl, rfl⟩))
        generalize (D.size : Int) - 1 = L at *
        go_region_held3 (fun _ => True) (go_keep) ((go_at_call 81; refine (HT.out _).mono ?_; rintro e w1 ⟨rfl, rfl⟩))
        go_wp2_with (first
          | (go_at_call 82; refine (KP.out _ _ M.out (by go_grown)).mono ?_; rintro e w2 ⟨rfl, hb⟩)
          | (go_at_call 53; refine (throw_bad 6 (by decide) _).mono ?_; rintro e w3 ⟨rfl, rfl⟩))
        exact ⟨rfl, rfl, hb⟩
    · have q1 : 4 < (D.size : Int) := by omega
      rcases hend with ⟨rfl, rfl⟩ | ⟨rfl, rfl⟩ | ⟨rfl, rfl⟩
      · go_enter Tryz.func52, Tryz.ntmps52
        go_upto_region 6 with (first
          | (go_at_call 80; refine (HC.out _).mono ?_; rintro e w1 ⟨rfl, rfl⟩)
          | (go_at_call 79; refine (HD.out _).mono ?_; rintro e w1 ⟨rfl, rfl⟩))
        generalize (D.size : Int) - 1 = L at *
        go_region_held3 (fun _ => True) (go_keep) ((go_at_call 81; refine (HT.out _).mono ?_; rintro e w1 ⟨rfl, rfl⟩))
        go_wp2_with (first
          | (go_at_call 82; refine (KP.out _ _ M.out (by go_grown)).mono ?_; rintro e w2 ⟨rfl, hb⟩)
          | (go_at_call 53; refine (throw_ok _).mono ?_; rintro e w3 ⟨rfl, rfl⟩))
        go_ret
        exact ⟨rfl, hb⟩
      · go_enter Tryz.func52, Tryz.ntmps52
        go_upto_region 6 with (first
          | (go_at_call 80; refine (HC.out _).mono ?_; rintro e w1 ⟨rfl, rfl⟩)
          | (go_at_call 79; refine (HD.out _).mono ?_; rintro e w1 ⟨rfl, rfl⟩))
        generalize (D.size : Int) - 1 = L at *
        go_region_held3 (fun _ => True) (go_keep) ((go_at_call 81; refine (HT.out _).mono ?_; rintro e w1 ⟨rfl, rfl⟩))
        go_wp2_with (first
          | (go_at_call 82; refine (KP.out _ _ M.out (by go_grown)).mono ?_; rintro e w2 ⟨rfl, hb⟩)
          | (go_at_call 53; refine (throw_bad 5 (by decide) _).mono ?_; rintro e w3 ⟨rfl, rfl⟩))
        exact ⟨rfl, rfl, hb⟩
      · go_enter Tryz.func52, Tryz.ntmps52
        go_upto_region 6 with (first
          | (go_at_call 80; refine (HC.out _).mono ?_; rintro e w1 ⟨rfl, rfl⟩)
          | (go_at_call 79; refine (HD.out _).mono ?_; rintro e w1 ⟨rfl, rfl⟩))
        generalize (D.size : Int) - 1 = L at *
        go_region_held3 (fun _ => True) (go_keep) ((go_at_call 81; refine (HT.out _).mono ?_; rintro e w1 ⟨rfl, rfl⟩))
        go_wp2_with (first
          | (go_at_call 82; refine (KP.out _ _ M.out (by go_grown)).mono ?_; rintro e w2 ⟨rfl, hb⟩)
          | (go_at_call 53; refine (throw_bad 6 (by decide) _).mono ?_; rintro e w3 ⟨rfl, rfl⟩))
        exact ⟨rfl, rfl, hb⟩
end Go.Proofs.YtiemlpmhhbmfiaaGreatDoor
/- Package civils: what Parse defers: where something was thrown, nothing and the error are laid. -/
namespace Go.Proofs.YtiemlpmhhbmfiaaGreatDoor
open Go.RowKit Go.Shelf

/-- An error's cell in memory. -/
def BkE (w : World) (g : Nat) (e : Int) : Prop := w.heap[g]? = some (.cells #[.int .i64 e] 24 (0, 0))
theorem BkE.cell {w : World} {g : Nat} {s : Int} (h : BkE w g s) : w.cell? ⟨g, 0, none⟩ = some (.int .i64 s) := cell_of_row w g 0 _ _ _ h
theorem BkE.frozen {w : World} {g : Nat} {s : Int} (h : BkE w g s) : w.frozen? ⟨g, 0, none⟩ = false := frozen_of_row w g 0 _ _ h
theorem BkE.new (w : World) (s : Int) : BkE (w.alloc (.cells #[.int .i64 s] 24)) w.heap.size s := heap_alloc_new w _
theorem BkE.below {w w' : World} {g B : Nat} {s : Int} (h : BkE w g s) (hg : g < B) (hb : Below B w w') : BkE w' g s := (hb.block g hg).trans h
theorem drew_below {B : Nat} {A X : World} (h : Below B A X) : Below B A X.drew := h.trans ⟨rfl, rfl, rfl, Nat.le_refl _, fun _ _ => rfl⟩
theorem drew_three {X : World} {g : Nat} {a b c : Int} (h : Three g a b c X) : Three g a b c X.drew := h
theorem drew_cell {X : World} {p : Addr} {v : Value} (h : X.cell? p = some v) : X.drew.cell? p = some v := h
def panW (W : World) (gc ge : Nat) (k : Int) : World := (((W.setCell ⟨gc, 0, none⟩ (.int .i64 0)).setCell ⟨gc, 1, none⟩ (.int .i64 0)).setCell ⟨gc, 2, none⟩ (.int .i64 0)).setCell ⟨ge, 0, none⟩ (.int .i64 k)
theorem pan_world {gc ge : Nat} {a b c e0 : Int} {W : World} (k : Int) (hC : BkC W gc a b c) (hE : BkE W ge e0) (hne : gc ≠ ge) :
    Three gc 0 0 0 (panW W gc ge k).drew ∧ (panW W gc ge k).drew.cell? ⟨ge, 0, none⟩ = some (.int .i64 k) ∧
      ∀ B A, B ≤ gc → B ≤ ge → Below B A W → Below B A (panW W gc ge k).drew := by
  have h1 : BkC (panW W gc ge k) gc 0 0 0 :=
    (heap_setCell_other _ ⟨ge, 0, none⟩ gc _ hne).trans (hC.store 0 0 0)
  have h0 : BkE (((W.setCell ⟨gc, 0, none⟩ (.int .i64 0)).setCell ⟨gc, 1, none⟩ (.int .i64 0)).setCell ⟨gc, 2, none⟩ (.int .i64 0)) ge e0 :=
    (heap_setCell_other _ ⟨gc, 2, none⟩ ge _ hne.symm).trans ((heap_setCell_other _ ⟨gc, 1, none⟩ ge _ hne.symm).trans ((heap_setCell_other _ ⟨gc, 0, none⟩ ge _ hne.symm).trans hE))
  have h2 : BkE (panW W gc ge k) ge k := heap_setCell_same _ ge 0 _ _ _ h0
  refine ⟨drew_three h1.three, drew_cell h2.cell, fun B A hB hB2 hA => drew_below ?_⟩
  exact (((hA.setCell (p := ⟨gc, 0, none⟩) hB _).setCell (p := ⟨gc, 1, none⟩) hB _).setCell (p := ⟨gc, 2, none⟩) hB _).setCell (p := ⟨ge, 0, none⟩) hB2 _
set_option maxHeartbeats 800000 in
set_option maxRecDepth 100000 in
theorem catch_pan (gc ge : Nat) (a b c e0 k : Int) (older : List PanicEntry) (W : World) (hC : BkC W gc a b c) (hE : BkE W ge e0) (hne : gc ≠ ge) :
    CallsD Tryz.prog 50 #[.pointer (some ⟨gc, 0, none⟩), .pointer (some ⟨ge, 0, none⟩)] (.panicking ({ v := .iface 24 (.int .i64 k), recovered := false } :: older)) W fun e u' w' =>
      e = .returned (.tuple #[]) ∧ u' = .panicking ({ v := .iface 24 (.int .i64 k), recovered := true } :: older) ∧
        (Three gc 0 0 0 w' ∧ w'.cell? ⟨ge, 0, none⟩ = some (.int .i64 k) ∧ ∀ B A, B ≤ gc → B ≤ ge → Below B A W → Below B A w') := by
  have hn : ∀ w : World, (binOp BinOp.neq 20 (.iface 24 (.int .i64 k)) .nilIface).run Tryz.prog w = .ok (.bool true) w := fun _ => by rfl
  have hta : ∀ w : World, (Instr.typeAssert (.iface 24 (.int .i64 k)) 20 24 false).run Tryz.prog w = .ok (.int .i64 k) w := fun _ => by rfl
  refine callsD_of_wpS Tryz.func50 rfl fun c₀ cs hu => ?_
  apply wpS_seq
  apply wpS_region
  simp [wpOpsS, go_sem, recoverD, hu, Tryz.ntmps50, Exit.thenS]
  apply wpS_seq
  apply wpS_region
  simp [wpOpsS, go_sem, hn, Exit.thenS]
  refine wpS_cond (t := true) (by simp [Act.eval, Array.replicate]) ?_
  simp only [if_true]
  obtain ⟨t0, t1, t2⟩ := hC.three
  have z0 := hC.frozen 0
  have z1 := hC.frozen 1
  have z2 := hC.frozen 2
  have t3 := hE.cell
  have z3 := hE.frozen
  refine wpS_of_wp ?_
  go_region
  all_goals exact ⟨rfl, _, rfl, .tuple #[], by simp [results, Tryz.results50], rfl, rfl, pan_world k hC hE hne⟩
set_option maxRecDepth 100000 in
theorem catch_ret (gc ge : Nat) (W : World) :
    CallsD Tryz.prog 50 #[.pointer (some ⟨gc, 0, none⟩), .pointer (some ⟨ge, 0, none⟩)] .returning W fun e u' w' => e = .returned (.tuple #[]) ∧ u' = .returning ∧ w' = W := by
  have hn : ∀ w : World, (binOp BinOp.neq 20 .nilIface .nilIface).run Tryz.prog w = .ok (.bool false) w := fun _ => by rfl
  refine callsD_of_wpS Tryz.func50 rfl fun c₀ cs hu => ?_
  apply wpS_seq
  apply wpS_region
  simp [wpOpsS, go_sem, recoverD, hu, Tryz.ntmps50, Exit.thenS]
  apply wpS_seq
  apply wpS_region
  simp [wpOpsS, go_sem, hn, Exit.thenS]
  refine wpS_cond (t := false) (by simp [Act.eval, Array.replicate]) ?_
  simp only [Bool.false_eq_true, if_false]
  refine wpS_of_wp (wp_skip ?_)
  cases c₀
  simp_all [bodyPostS, results, Tryz.results50]
end Go.Proofs.YtiemlpmhhbmfiaaGreatDoor
/- What Parse of package civils cuts off a text: plain facts. -/
namespace Go.Proofs.YtiemlpmhhbmfiaaGreatDoor

/-- A text ends with a minus sign and two digits. -/
def cutL (l : List UInt8) : Bool := decide (3 ≤ l.length) && decide (l[l.length - 3]? = some 45) && (l.drop (l.length - 2)).all digitB
theorem cutL_shape (r : List UInt8) (x c d : UInt8) : cutL (r ++ [x, c, d]) = (decide (x = 45) && (digitB c && digitB d)) := by
  unfold cutL
  have e1 : (r ++ [x, c, d])[(r ++ [x, c, d]).length - 3]? = some x := by
    rw [show (r ++ [x, c, d]).length - 3 = r.length by simp, List.getElem?_append_right (by omega)]; simp
  have e2 : (r ++ [x, c, d]).drop ((r ++ [x, c, d]).length - 2) = [c, d] := by
    rw [show (r ++ [x, c, d]).length - 2 = r.length + 1 by simp, List.drop_append]; simp
  rw [e1, e2]
  simp
theorem shape3 {l : List UInt8} (h : 3 ≤ l.length) : ∃ x c d, l = l.take (l.length - 3) ++ [x, c, d] := by
  have hd : (l.drop (l.length - 3)).length = 3 := by rw [List.length_drop]; omega
  have e := (List.take_append_drop (l.length - 3) l).symm
  match hx : l.drop (l.length - 3), hd with
  | [x, c, d], _ => rw [hx] at e; exact ⟨x, c, d, e⟩
theorem form_cut1 {l : List UInt8} (h : cutL l = false) : cForm l = false := by
  cases hf : cForm l
  · rfl
  · exfalso
    unfold cForm at hf
    unfold cutL at h
    simp only [Bool.and_eq_true, decide_eq_true_eq] at hf
    obtain ⟨⟨⟨⟨⟨h10, h3⟩, _⟩, h2⟩, _⟩, _⟩ := hf
    rw [h3, h2] at h
    simp at h
    omega
theorem form_cut2 {r : List UInt8} {x c d : UInt8} (h : cutL r = false) : cForm (r ++ [x, c, d]) = false := by
  cases hf : cForm (r ++ [x, c, d])
  · rfl
  · exfalso
    have h10 : 10 ≤ (r ++ [x, c, d]).length := by
      unfold cForm at hf
      simp only [Bool.and_eq_true, decide_eq_true_eq] at hf
      omega
    have h7 : 3 ≤ r.length := by simp at h10; omega
    obtain ⟨x0, a, b, e⟩ := shape3 h7
    generalize r.take (r.length - 3) = y at e
    subst e
    rw [cutL_shape] at h
    rw [show y ++ [x0, a, b] ++ [x, c, d] = y ++ [x0, a, b, x, c, d] by simp, sh_form] at hf
    simp only [Bool.and_eq_true] at hf
    obtain ⟨⟨⟨⟨⟨_, _⟩, q0⟩, _⟩, q1⟩, _⟩ := hf
    rw [q0, q1.1, q1.2] at h
    cases h
theorem yOk_four {y : List UInt8} (h : yOk y = true) : 4 ≤ y.length := by
  unfold yOk at h
  simp only [Bool.and_eq_true, decide_eq_true_eq] at h
  have h4 := h.1.1.1
  have : (bare y).length ≤ y.length := by
    unfold bare Lib.trimPrefix
    split
    · rw [List.length_drop]; omega
    · exact Nat.le_refl _
  omega
theorem form_year {y : List UInt8} {a b c d : UInt8} (ha : digitB a = true) (hb : digitB b = true) (hc : digitB c = true) (hd : digitB d = true) : cForm (y ++ [45, a, b, 45, c, d]) = yOk y := by
  rw [sh_form, ha, hb, hc, hd]
  cases hy : yOk y
  · simp
  · rw [decide_eq_true (yOk_four hy)]; rfl

/-- Where a text does not end so: how the cut comes to see it. -/
def CutBad (s : ByteArray) : Prop := s.size < 2 ∨ (2 ≤ s.size ∧ (Lib.hasSuffix (s.extract 0 (s.size - 2)).data.toList [45] = false ∨ (Lib.hasSuffix (s.extract 0 (s.size - 2)).data.toList [45] = true ∧ allDig (s.extract (s.size - 2) s.size) = false)))
def CutOk (s R : ByteArray) (a b : Nat) : Prop := ∃ h3 : 3 ≤ s.size, s.extract 0 (s.size - 3) = R ∧ Lib.hasSuffix (s.extract 0 (s.size - 2)).data.toList [45] = true ∧ allDig (s.extract (s.size - 2) s.size) = true ∧ a ≤ 9 ∧ b ≤ 9 ∧ s[s.size - 2].toNat = 48 + a ∧ s[s.size - 1].toNat = 48 + b
theorem ext_lst (s : ByteArray) (i j : Nat) : (s.extract i j).data.toList = (s.data.toList.drop i).take (j - i) := by
  rw [ByteArray.data_extract, Array.toList_extract, List.extract_eq_take_drop]
theorem suff_one (r : List UInt8) (x : UInt8) : Lib.hasSuffix (r ++ [x]) [45] = decide (x = 45) := by
  unfold Lib.hasSuffix
  by_cases h : x = 45
  · subst h; simp [List.isSuffixOf]
  · have : ((45 : UInt8) == x) = false := by rw [beq_eq_false_iff_ne]; exact fun e => h e.symm
    simp [List.isSuffixOf, List.isPrefixOf, h, this]
theorem digB_lt {c : UInt8} (h : digitB c = true) : ∃ a : Nat, a ≤ 9 ∧ c.toNat = 48 + a := by
  unfold digitB at h
  rw [decide_eq_true_eq] at h
  exact ⟨c.toNat - 48, by omega, by omega⟩
theorem cut_cases (s : ByteArray) : (cutL s.data.toList = false ∧ CutBad s) ∨ (∃ (R : ByteArray) (a b : Nat) (c d : UInt8), CutOk s R a b ∧ s.data.toList = R.data.toList ++ [45, c, d] ∧ c.toNat = 48 + a ∧ d.toNat = 48 + b ∧ digitB c = true ∧ digitB d = true) := by
  have hsz := size_l s
  rcases Nat.lt_or_ge s.size 3 with h3 | h3
  · left
    refine ⟨?_, ?_⟩
    · unfold cutL
      rw [decide_eq_false (by omega)]; rfl
    · rcases Nat.lt_or_ge s.size 2 with h2 | h2
      · exact .inl h2
      · refine .inr ⟨h2, .inl ?_⟩
        rw [show s.size - 2 = 0 by omega, ext_lst]
        rfl
  · obtain ⟨x, c, d, e⟩ := shape3 (l := s.data.toList) (by omega)
    have hA : (s.extract 0 (s.size - 2)).data.toList = s.data.toList.take (s.data.toList.length - 3) ++ [x] := by
      rw [ext_lst, hsz]
      generalize hr : s.data.toList.take (s.data.toList.length - 3) = r at *
      rw [e]
      rw [show (r ++ [x, c, d]).length - 2 - 0 = r.length + 1 by simp, List.drop_zero, List.take_append, List.take_of_length_le (show r.length ≤ r.length + 1 by omega)]
      simp
    have hB : (s.extract (s.size - 2) s.size).data.toList = [c, d] := by
      rw [ext_lst, hsz]
      generalize hr : s.data.toList.take (s.data.toList.length - 3) = r at *
      rw [e]
      rw [show (r ++ [x, c, d]).length - 2 = r.length + 1 by simp, List.drop_append, List.drop_of_length_le (show r.length ≤ r.length + 1 by omega)]
      simp
    have hR : (s.extract 0 (s.size - 3)).data.toList = s.data.toList.take (s.data.toList.length - 3) := by
      rw [ext_lst, hsz]; simp
    have hcut : cutL s.data.toList = (decide (x = 45) && (digitB c && digitB d)) := by rw [e, cutL_shape]
    have hdig : allDig (s.extract (s.size - 2) s.size) = (digitB c && digitB d) := by unfold allDig; rw [hB]; simp
    by_cases hx : x = 45
    · cases hcd : digitB c && digitB d
      · left
        refine ⟨by rw [hcut, hcd]; simp, .inr ⟨by omega, .inr ⟨?_, by rw [hdig, hcd]⟩⟩⟩
        rw [hA, suff_one, decide_eq_true hx]
      · right
        have hcd' := hcd
        simp only [Bool.and_eq_true] at hcd'
        obtain ⟨a, ha, ea⟩ := digB_lt hcd'.1
        obtain ⟨b, hb, eb⟩ := digB_lt hcd'.2
        refine ⟨s.extract 0 (s.size - 3), a, b, c, d, ⟨h3, rfl, ?_, by rw [hdig, hcd], ha, hb, ?_, ?_⟩, by rw [hR]; rw [hx] at e; exact e, ea, eb, hcd'.1, hcd'.2⟩
        · rw [hA, suff_one, decide_eq_true hx]
        · have : s[s.size - 2] = s.data.toList[s.size - 2]'(by omega) := rfl
          rw [this, ← ea]
          congr 1
          have h1 : s.data.toList[s.size - 2]? = some c := by
            rw [e, hsz]
            generalize s.data.toList.take (s.data.toList.length - 3) = r at *
            rw [e, show (r ++ [x, c, d]).length - 2 = r.length + 1 by simp, List.getElem?_append_right (by omega)]; simp
          rw [List.getElem?_eq_getElem (by omega)] at h1
          exact Option.some.inj h1
        · have : s[s.size - 1] = s.data.toList[s.size - 1]'(by omega) := rfl
          rw [this, ← eb]
          congr 1
          have h1 : s.data.toList[s.size - 1]? = some d := by
            rw [e, hsz]
            generalize s.data.toList.take (s.data.toList.length - 3) = r at *
            rw [e, show (r ++ [x, c, d]).length - 1 = r.length + 2 by simp, List.getElem?_append_right (by omega)]; simp
          rw [List.getElem?_eq_getElem (by omega)] at h1
          exact Option.some.inj h1
    · left
      refine ⟨by rw [hcut, decide_eq_false hx]; rfl, .inr ⟨by omega, .inl ?_⟩⟩
      rw [hA, suff_one, decide_eq_false hx]
end Go.Proofs.YtiemlpmhhbmfiaaGreatDoor
/- Package civils: Parse. -/
namespace Go.Proofs.YtiemlpmhhbmfiaaGreatDoor
open Go.RowKit Go.Shelf

/-- The memory of a running Parse: the civil day as far as it is known, the error, what is left of the text. -/
structure Inv (w V : World) (a b c : Int) (s : ByteArray) : Prop where
  civ : BkC V w.heap.size a b c
  err : BkE V (w.heap.size + 1) 0
  txt : BkS V (w.heap.size + 1 + 1) s
  low : Below w.heap.size w V
  size : w.heap.size + 1 + 1 < V.heap.size
theorem Inv.new (w : World) (s : ByteArray) : Inv w (((w.alloc (.cells #[.int .i64 0, .int .i64 0, .int .i64 0] 23)).alloc (.cells #[.int .i64 0] 24)).alloc (.cells #[.string s] 78)) 0 0 0 s := by
  have e1 : (w.alloc (.cells #[.int .i64 0, .int .i64 0, .int .i64 0] 23)).heap.size = w.heap.size + 1 := by simp
  have e2 : ((w.alloc (.cells #[.int .i64 0, .int .i64 0, .int .i64 0] 23)).alloc (.cells #[.int .i64 0] 24)).heap.size = w.heap.size + 1 + 1 := by simp
  have h0 := BkC.new w 0 0 0
  have h1 := BkE.new (w.alloc (.cells #[.int .i64 0, .int .i64 0, .int .i64 0] 23)) 0
  have h2 := BkS.new ((w.alloc (.cells #[.int .i64 0, .int .i64 0, .int .i64 0] 23)).alloc (.cells #[.int .i64 0] 24)) s
  rw [e1] at h1
  rw [e2] at h2
  refine ⟨?_, ?_, h2, by go_grown, by simp⟩
  · exact (h0.below (B := w.heap.size + 1) (by omega) ((Below.refl _ _).alloc (by rw [e1]; exact Nat.le_refl _) _)).below (B := w.heap.size + 1 + 1) (by omega) ((Below.refl _ _).alloc (by rw [e2]; exact Nat.le_refl _) _)
  · exact h1.below (B := w.heap.size + 1 + 1) (by omega) ((Below.refl _ _).alloc (by rw [e2]; exact Nat.le_refl _) _)
theorem Inv.cut {w V X : World} {a b c : Int} {s R : ByteArray} (h : Inv w V a b c s) (h1 : BkS X (w.heap.size + 1 + 1) R) (h2 : Below (w.heap.size + 1 + 1) V X) : Inv w X a b c R :=
  ⟨h.civ.below (by omega) h2, h.err.below (by omega) h2, h1, h.low.trans (h2.mono (by omega)), Nat.lt_of_lt_of_le h.size h2.size⟩
theorem Inv.step {w V X : World} {a b c : Int} {s : ByteArray} (h : Inv w V a b c s) (h2 : Below V.heap.size V X) : Inv w X a b c s :=
  ⟨h.civ.below (by have := h.size; omega) h2, h.err.below (by have := h.size; omega) h2, h.txt.below h.size h2, h.low.trans (h2.mono h.low.size), Nat.lt_of_lt_of_le h.size h2.size⟩
theorem Inv.setD {w V : World} {a b c : Int} {s : ByteArray} (h : Inv w V a b c s) (v : Int) : Inv w (V.setCell ⟨w.heap.size, 2, none⟩ (.int .i64 v)) a b v s :=
  ⟨heap_setCell_same V w.heap.size 2 _ _ _ h.civ, (heap_setCell_other _ ⟨w.heap.size, 2, none⟩ _ _ (by simp)).trans h.err, (heap_setCell_other _ ⟨w.heap.size, 2, none⟩ _ _ (by simp; omega)).trans h.txt, h.low.setCell (Nat.le_refl _) _, by have := h.size; simpa using this⟩
theorem Inv.setM {w V : World} {a b c : Int} {s : ByteArray} (h : Inv w V a b c s) (v : Int) : Inv w (V.setCell ⟨w.heap.size, 1, none⟩ (.int .i64 v)) a v c s :=
  ⟨heap_setCell_same V w.heap.size 1 _ _ _ h.civ, (heap_setCell_other _ ⟨w.heap.size, 1, none⟩ _ _ (by simp)).trans h.err, (heap_setCell_other _ ⟨w.heap.size, 1, none⟩ _ _ (by simp; omega)).trans h.txt, h.low.setCell (Nat.le_refl _) _, by have := h.size; simpa using this⟩
theorem Inv.setY {w V : World} {a b c : Int} {s : ByteArray} (h : Inv w V a b c s) (v : Int) : Inv w (V.setCell ⟨w.heap.size, 0, none⟩ (.int .i64 v)) v b c s :=
  ⟨heap_setCell_same V w.heap.size 0 _ _ _ h.civ, (heap_setCell_other _ ⟨w.heap.size, 0, none⟩ _ _ (by simp)).trans h.err, (heap_setCell_other _ ⟨w.heap.size, 0, none⟩ _ _ (by simp; omega)).trans h.txt, h.low.setCell (Nat.le_refl _) _, by have := h.size; simpa using this⟩

/-- What Parse has deferred. -/
def lateZ (w : World) : List Deferred := [{ target := Target.fn (Fn.func 50) #[.pointer (some ⟨w.heap.size, 0, none⟩), .pointer (some ⟨w.heap.size + 1, 0, none⟩)], args := #[] }]
/-- How Parse ends where an error was thrown. -/
theorem door_pan {w V : World} {a b c k : Int} {s : ByteArray} {tmps : Array Value} (h : Inv w V a b c s) (ht2 : tmps[2]? = some (.pointer (some ⟨w.heap.size, 0, none⟩))) (ht3 : tmps[3]? = some (.pointer (some ⟨w.heap.size + 1, 0, none⟩))) :
    bodyPostD Tryz.prog Tryz.f28 (fun e w' => e = .returned (.tuple #[.agg #[.int .i64 0, .int .i64 0, .int .i64 0], .int .i64 k]) ∧ Below w.heap.size w w') (Exit.panic (thrown k)) { tmps := tmps, defers := lateZ w } V := by
  refine leaves_cons (f := 50) (args := #[.pointer (some ⟨w.heap.size, 0, none⟩), .pointer (some ⟨w.heap.size + 1, 0, none⟩)]) (by simp) (by simp [go_sem]) ?_
  refine (catch_pan w.heap.size (w.heap.size + 1) a b c 0 k [] V h.civ h.err (by omega)).mono ?_
  rintro e u' w'' ⟨rfl, rfl, ⟨t0, t1, t2⟩, te, hb⟩
  have hlow := hb w.heap.size w (Nat.le_refl _) (by omega) h.low
  simp [Leaves, settle, results, Tryz.results28, go_sem, ht2, ht3, t0, t1, t2, te, hlow]
set_option maxHeartbeats 1600000 in
set_option maxRecDepth 100000 in
theorem prun_cut1 (s : ByteArray) (w : World) (hl : s.size ≤ 140737488355328) (hbad : CutBad s) :
    Calls Tryz.prog 28 #[.string s] w fun e w' => e = .returned (.tuple #[.agg #[.int .i64 0, .int .i64 0, .int .i64 0], .int .i64 5]) ∧ Below w.heap.size w w' := by
  have hmf : ∀ (fn : Fn) (first cap : Array Value) (w : World), (Instr.makeFunc fn first cap).run Tryz.prog w = .ok (.func fn first cap) w := fun _ _ _ _ => rfl
  have HN := Lib.hid (Inv.new w s)
  have HB := Lib.hid hbad
  clear hbad
  go_enter_defers Tryz.func28, Tryz.ntmps28
  go_upto_region 4 with fail
  generalize (((w.alloc (Obj.cells #[Value.int IntKind.i64 0, Value.int IntKind.i64 0, Value.int IntKind.i64 0] 23)).alloc (Obj.cells #[Value.int IntKind.i64 0] 24)).alloc (Obj.cells #[Value.string s] 78)) = V at *
  go_wp2_with (go_at_call 51; refine (cut_bad _ s V HN.out.txt (by omega) HB.out).mono ?_; rintro e w1 ⟨rfl, rfl⟩)
  exact door_pan HN.out rfl rfl

theorem cutv (g : Nat) (s R : ByteArray) (a b : Nat) (d : Int) (V : World) (hK : BkS V g s) (hs : s.size ≤ 140737488355328) (h : CutOk s R a b) (hd : (a : Int) * 10 + b = d) :
    Calls Tryz.prog 51 #[.pointer (some ⟨g, 0, none⟩)] V fun e w' => e = .returned (.int .i64 d) ∧ (BkS w' g R ∧ Below g V w' ∧ w'.heap.size = V.heap.size) := by
  obtain ⟨h3, hR, h45, hdg, ha, hb, e1, e2⟩ := h
  subst hd
  exact cut_ok g s _ _ R V hK (by omega) h3 rfl rfl hR h45 hdg a b ha hb e1 e2

set_option maxHeartbeats 1600000 in
set_option maxRecDepth 100000 in
theorem prun_cut2 (s R : ByteArray) (a b : Nat) (d : Int) (w : World) (hl : s.size ≤ 140737488355328) (hc : CutOk s R a b) (hd : (a : Int) * 10 + b = d) (hR : R.size ≤ s.size) (hbad : CutBad R) :
    Calls Tryz.prog 28 #[.string s] w fun e w' => e = .returned (.tuple #[.agg #[.int .i64 0, .int .i64 0, .int .i64 0], .int .i64 5]) ∧ Below w.heap.size w w' := by
  have hmf : ∀ (fn : Fn) (first cap : Array Value) (w : World), (Instr.makeFunc fn first cap).run Tryz.prog w = .ok (.func fn first cap) w := fun _ _ _ _ => rfl
  have HN := Lib.hid (Inv.new w s)
  have HB := Lib.hid hbad
  have HC := Lib.hid hc
  clear hbad hc
  go_enter_defers Tryz.func28, Tryz.ntmps28
  go_upto_region 4 with fail
  generalize (((w.alloc (Obj.cells #[Value.int IntKind.i64 0, Value.int IntKind.i64 0, Value.int IntKind.i64 0] 23)).alloc (Obj.cells #[Value.int IntKind.i64 0] 24)).alloc (Obj.cells #[Value.string s] 78)) = V at *
  go_upto_region 5 with (go_at_call 51; refine (cutv _ s R a b d V HN.out.txt hl HC.out hd).mono ?_; rintro e w1 ⟨rfl, k1, k2, -⟩; have I1 := Lib.hid (HN.out.cut k1 k2); have c2 := I1.out.civ.three.2.2; have z2 := I1.out.civ.frozen 2; clear k1 k2)
  have I2 := Lib.hid (I1.out.setD d)
  clear c2 z2 I1 HN
  generalize (w1.setCell { block := w.heap.size, off := 2 } (Value.int IntKind.i64 d)) = V2 at *
  go_wp2_with (go_at_call 51; refine (cut_bad _ R V2 I2.out.txt (by omega) HB.out).mono ?_; rintro e w2 ⟨rfl, rfl⟩)
  exact door_pan I2.out rfl rfl

/-- Both cuts are made: what comes behind. -/
theorem Inv.three {w V : World} {a b c : Int} {s : ByteArray} (h : Inv w V a b c s) : Three w.heap.size a b c V := h.civ.three
set_option maxHeartbeats 1600000 in
set_option maxRecDepth 100000 in
theorem prun_year (s R Q : ByteArray) (a b a' b' : Nat) (d m k : Int) (w : World) (hl : s.size ≤ 140737488355328) (hc : CutOk s R a b) (hd : (a : Int) * 10 + b = d) (hR : R.size ≤ s.size) (hc' : CutOk R Q a' b') (hm : (a' : Int) * 10 + b' = m)
    (hY : ∀ X, Below w.heap.size w X → Calls Tryz.prog 52 #[.string Q] X fun e w' => e = .panicked (thrown k) ∧ Below X.heap.size X w') :
    Calls Tryz.prog 28 #[.string s] w fun e w' => e = .returned (.tuple #[.agg #[.int .i64 0, .int .i64 0, .int .i64 0], .int .i64 k]) ∧ Below w.heap.size w w' := by
  have hmf : ∀ (fn : Fn) (first cap : Array Value) (w : World), (Instr.makeFunc fn first cap).run Tryz.prog w = .ok (.func fn first cap) w := fun _ _ _ _ => rfl
  have HN := Lib.hid (Inv.new w s)
  have HC := Lib.hid hc
  have HC' := Lib.hid hc'
  have HY := Lib.hid hY
  clear hc hc' hY
  go_enter_defers Tryz.func28, Tryz.ntmps28
  go_upto_region 4 with fail
  generalize (((w.alloc (Obj.cells #[Value.int IntKind.i64 0, Value.int IntKind.i64 0, Value.int IntKind.i64 0] 23)).alloc (Obj.cells #[Value.int IntKind.i64 0] 24)).alloc (Obj.cells #[Value.string s] 78)) = V at *
  go_upto_region 5 with (go_at_call 51; refine (cutv _ s R a b d V HN.out.txt hl HC.out hd).mono ?_; rintro e w1 ⟨rfl, k1, k2, -⟩; have I1 := Lib.hid (HN.out.cut k1 k2); have c2 := I1.out.civ.three.2.2; have z2 := I1.out.civ.frozen 2; clear k1 k2)
  have I2 := Lib.hid (I1.out.setD d)
  clear c2 z2 I1 HN
  generalize (w1.setCell { block := w.heap.size, off := 2 } (Value.int IntKind.i64 d)) = V2 at *
  go_upto_region 6 with (go_at_call 51; refine (cutv _ R Q a' b' m V2 I2.out.txt (by omega) HC'.out hm).mono ?_; rintro e w2 ⟨rfl, k1, k2, -⟩; have I3 := Lib.hid (I2.out.cut k1 k2); have c2 := I3.out.civ.three.2.1; have z2 := I3.out.civ.frozen 1; clear k1 k2)
  have I4 := Lib.hid (I3.out.setM m)
  clear c2 z2 I3 I2
  generalize (w2.setCell { block := w.heap.size, off := 1 } (Value.int IntKind.i64 m)) = V4 at *
  have x0 := I4.out.txt.cell
  go_wp2_with (go_at_call 52; refine (HY.out V4 I4.out.low).mono ?_; rintro e w3 ⟨rfl, hb⟩)
  exact door_pan (I4.out.step hb) rfl rfl
end Go.Proofs.YtiemlpmhhbmfiaaGreatDoor
/- Package civils: Parse of whatever text. -/
namespace Go.Proofs.YtiemlpmhhbmfiaaGreatDoor
open Go.RowKit Go.Shelf

/-- The civil day and the error stored at the end. -/
def retW (W : World) (gc ge : Nat) (y m d : Int) : World := (((W.setCell ⟨gc, 0, none⟩ (.int .i64 y)).setCell ⟨gc, 1, none⟩ (.int .i64 m)).setCell ⟨gc, 2, none⟩ (.int .i64 d)).setCell ⟨ge, 0, none⟩ (.int .i64 0)
theorem ret_world {w V : World} {a b c : Int} {s : ByteArray} (h : Inv w V a b c s) (y m d : Int) :
    Three w.heap.size y m d (retW V w.heap.size (w.heap.size + 1) y m d) ∧ (retW V w.heap.size (w.heap.size + 1) y m d).cell? ⟨w.heap.size + 1, 0, none⟩ = some (.int .i64 0) ∧ Below w.heap.size w (retW V w.heap.size (w.heap.size + 1) y m d) := by
  have hne : w.heap.size ≠ w.heap.size + 1 := by omega
  have h1 : BkC (retW V w.heap.size (w.heap.size + 1) y m d) w.heap.size y m d :=
    (heap_setCell_other _ ⟨w.heap.size + 1, 0, none⟩ w.heap.size _ hne).trans (h.civ.store y m d)
  have h0 : BkE (((V.setCell ⟨w.heap.size, 0, none⟩ (.int .i64 y)).setCell ⟨w.heap.size, 1, none⟩ (.int .i64 m)).setCell ⟨w.heap.size, 2, none⟩ (.int .i64 d)) (w.heap.size + 1) 0 :=
    (heap_setCell_other _ ⟨w.heap.size, 2, none⟩ _ _ hne.symm).trans ((heap_setCell_other _ ⟨w.heap.size, 1, none⟩ _ _ hne.symm).trans ((heap_setCell_other _ ⟨w.heap.size, 0, none⟩ _ _ hne.symm).trans h.err))
  have h2 : BkE (retW V w.heap.size (w.heap.size + 1) y m d) (w.heap.size + 1) 0 := heap_setCell_same _ (w.heap.size + 1) 0 _ _ _ h0
  refine ⟨h1.three, h2.cell, ?_⟩
  exact (((h.low.setCell (p := ⟨w.heap.size, 0, none⟩) (Nat.le_refl _) _).setCell (p := ⟨w.heap.size, 1, none⟩) (Nat.le_refl _) _).setCell (p := ⟨w.heap.size, 2, none⟩) (Nat.le_refl _) _).setCell (p := ⟨w.heap.size + 1, 0, none⟩) (by show _ ≤ w.heap.size + 1; omega) _
/-- How Parse ends where nothing was thrown. -/
theorem door_ret {w V : World} {a b c y m d : Int} {s : ByteArray} {tmps : Array Value} (h : Inv w V a b c s) (ht2 : tmps[2]? = some (.pointer (some ⟨w.heap.size, 0, none⟩))) (ht3 : tmps[3]? = some (.pointer (some ⟨w.heap.size + 1, 0, none⟩))) :
    bodyPostD Tryz.prog Tryz.f28 (fun e w' => e = .returned (.tuple #[.agg #[.int .i64 y, .int .i64 m, .int .i64 d], .int .i64 0]) ∧ Below w.heap.size w w') Exit.ret { tmps := tmps, defers := lateZ w } (retW V w.heap.size (w.heap.size + 1) y m d) := by
  obtain ⟨⟨t0, t1, t2⟩, te, hlow⟩ := ret_world h y m d
  generalize retW V w.heap.size (w.heap.size + 1) y m d = X at *
  refine leaves_cons (f := 50) (args := #[.pointer (some ⟨w.heap.size, 0, none⟩), .pointer (some ⟨w.heap.size + 1, 0, none⟩)]) (by simp) (by simp [go_sem]) ?_
  refine (catch_ret w.heap.size (w.heap.size + 1) X).mono ?_
  rintro e u' w'' ⟨rfl, rfl, rfl⟩
  simp [Leaves, settle, results, Tryz.results28, go_sem, ht2, ht3, t0, t1, t2, te, hlow]

set_option maxHeartbeats 1600000 in
set_option maxRecDepth 100000 in
theorem prun_chk (s R Q : ByteArray) (a b a' b' : Nat) (d m y k : Int) (w : World) (hs : StartYM w) (hl : s.size ≤ 140737488355328) (hc : CutOk s R a b) (hd : (a : Int) * 10 + b = d) (hR : R.size ≤ s.size) (hc' : CutOk R Q a' b') (hm : (a' : Int) * 10 + b' = m)
    (hY : ∀ X, Below w.heap.size w X → Calls Tryz.prog 52 #[.string Q] X fun e w' => e = .returned (.int .i64 y) ∧ Below X.heap.size X w')
    (hyb : I64 y) (hmb : I64 m) (hdb : I64 d) (hE : cE y m d = k) (hk : k ≠ 0) :
    Calls Tryz.prog 28 #[.string s] w fun e w' => e = .returned (.tuple #[.agg #[.int .i64 0, .int .i64 0, .int .i64 0], .int .i64 k]) ∧ Below w.heap.size w w' := by
  have hmf : ∀ (fn : Fn) (first cap : Array Value) (w : World), (Instr.makeFunc fn first cap).run Tryz.prog w = .ok (.func fn first cap) w := fun _ _ _ _ => rfl
  have HN := Lib.hid (Inv.new w s)
  have HC := Lib.hid hc
  have HC' := Lib.hid hc'
  have HY := Lib.hid hY
  have HK := Lib.hid (fun X (hX : Below w.heap.size w X) => pcheck_any y m d X (hs.below hX) hyb hmb hdb)
  rw [hE] at HK
  have HT := Lib.hid (throw_bad k hk)
  clear hc hc' hY hyb hmb hdb hE hs
  go_enter_defers Tryz.func28, Tryz.ntmps28
  go_upto_region 4 with fail
  generalize (((w.alloc (Obj.cells #[Value.int IntKind.i64 0, Value.int IntKind.i64 0, Value.int IntKind.i64 0] 23)).alloc (Obj.cells #[Value.int IntKind.i64 0] 24)).alloc (Obj.cells #[Value.string s] 78)) = V at *
  go_upto_region 5 with (go_at_call 51; refine (cutv _ s R a b d V HN.out.txt hl HC.out hd).mono ?_; rintro e w1 ⟨rfl, k1, k2, -⟩; have I1 := Lib.hid (HN.out.cut k1 k2); have c2 := I1.out.civ.three.2.2; have z2 := I1.out.civ.frozen 2; clear k1 k2)
  have I2 := Lib.hid (I1.out.setD d)
  clear c2 z2 I1 HN
  generalize (w1.setCell { block := w.heap.size, off := 2 } (Value.int IntKind.i64 d)) = V2 at *
  go_upto_region 6 with (go_at_call 51; refine (cutv _ R Q a' b' m V2 I2.out.txt (by omega) HC'.out hm).mono ?_; rintro e w2 ⟨rfl, k1, k2, -⟩; have I3 := Lib.hid (I2.out.cut k1 k2); have c2 := I3.out.civ.three.2.1; have z2 := I3.out.civ.frozen 1; clear k1 k2)
  have I4 := Lib.hid (I3.out.setM m)
  clear c2 z2 I3 I2
  generalize (w2.setCell { block := w.heap.size, off := 1 } (Value.int IntKind.i64 m)) = V4 at *
  have x0 := I4.out.txt.cell
  go_upto_region 7 with (go_at_call 52; refine (HY.out V4 I4.out.low).mono ?_; rintro e w3 ⟨rfl, hb⟩; have I5 := Lib.hid (I4.out.step hb); have c2 := I5.out.civ.three.1; have z2 := I5.out.civ.frozen 0; clear hb)
  have I6 := Lib.hid (I5.out.setY y)
  clear c2 z2 I5 I4 x0
  generalize (w3.setCell { block := w.heap.size, off := 0 } (Value.int IntKind.i64 y)) = V6 at *
  obtain ⟨t0, t1, t2⟩ := I6.out.three
  go_wp2_with (first
    | (go_at_call 13; refine (HK.out V6 I6.out.low).mono ?_; rintro e w4 ⟨rfl, hb⟩)
    | (go_at_call 53; refine (HT.out _).mono ?_; rintro e w5 ⟨rfl, rfl⟩))
  exact door_pan (I6.out.step hb) rfl rfl

set_option maxHeartbeats 1600000 in
set_option maxRecDepth 100000 in
theorem prun_ok (s R Q : ByteArray) (a b a' b' : Nat) (d m y : Int) (w : World) (hs : StartYM w) (hl : s.size ≤ 140737488355328) (hc : CutOk s R a b) (hd : (a : Int) * 10 + b = d) (hR : R.size ≤ s.size) (hc' : CutOk R Q a' b') (hm : (a' : Int) * 10 + b' = m)
    (hY : ∀ X, Below w.heap.size w X → Calls Tryz.prog 52 #[.string Q] X fun e w' => e = .returned (.int .i64 y) ∧ Below X.heap.size X w')
    (hyb : I64 y) (hmb : I64 m) (hdb : I64 d) (hE : cE y m d = 0) :
    Calls Tryz.prog 28 #[.string s] w fun e w' => e = .returned (.tuple #[.agg #[.int .i64 y, .int .i64 m, .int .i64 d], .int .i64 0]) ∧ Below w.heap.size w w' := by
  have hmf : ∀ (fn : Fn) (first cap : Array Value) (w : World), (Instr.makeFunc fn first cap).run Tryz.prog w = .ok (.func fn first cap) w := fun _ _ _ _ => rfl
  have HN := Lib.hid (Inv.new w s)
  have HC := Lib.hid hc
  have HC' := Lib.hid hc'
  have HY := Lib.hid hY
  have HK := Lib.hid (fun X (hX : Below w.heap.size w X) => pcheck_any y m d X (hs.below hX) hyb hmb hdb)
  rw [hE] at HK
  have HT := Lib.hid throw_ok
  clear hc hc' hY hyb hmb hdb hE hs
  go_enter_defers Tryz.func28, Tryz.ntmps28
  go_upto_region 4 with fail
  generalize (((w.alloc (Obj.cells #[Value.int IntKind.i64 0, Value.int IntKind.i64 0, Value.int IntKind.i64 0] 23)).alloc (Obj.cells #[Value.int IntKind.i64 0] 24)).alloc (Obj.cells #[Value.string s] 78)) = V at *
  go_upto_region 5 with (go_at_call 51; refine (cutv _ s R a b d V HN.out.txt hl HC.out hd).mono ?_; rintro e w1 ⟨rfl, k1, k2, -⟩; have I1 := Lib.hid (HN.out.cut k1 k2); have c2 := I1.out.civ.three.2.2; have z2 := I1.out.civ.frozen 2; clear k1 k2)
  have I2 := Lib.hid (I1.out.setD d)
  clear c2 z2 I1 HN
  generalize (w1.setCell { block := w.heap.size, off := 2 } (Value.int IntKind.i64 d)) = V2 at *
  go_upto_region 6 with (go_at_call 51; refine (cutv _ R Q a' b' m V2 I2.out.txt (by omega) HC'.out hm).mono ?_; rintro e w2 ⟨rfl, k1, k2, -⟩; have I3 := Lib.hid (I2.out.cut k1 k2); have c2 := I3.out.civ.three.2.1; have z2 := I3.out.civ.frozen 1; clear k1 k2)
  have I4 := Lib.hid (I3.out.setM m)
  clear c2 z2 I3 I2
  generalize (w2.setCell { block := w.heap.size, off := 1 } (Value.int IntKind.i64 m)) = V4 at *
  have x0 := I4.out.txt.cell
  go_upto_region 7 with (go_at_call 52; refine (HY.out V4 I4.out.low).mono ?_; rintro e w3 ⟨rfl, hb⟩; have I5 := Lib.hid (I4.out.step hb); have c2 := I5.out.civ.three.1; have z2 := I5.out.civ.frozen 0; clear hb)
  have I6 := Lib.hid (I5.out.setY y)
  clear c2 z2 I5 I4 x0
  generalize (w3.setCell { block := w.heap.size, off := 0 } (Value.int IntKind.i64 y)) = V6 at *
  obtain ⟨t0, t1, t2⟩ := I6.out.three
  go_upto_region 8 with (first
    | (go_at_call 13; refine (HK.out V6 I6.out.low).mono ?_; rintro e w4 ⟨rfl, hb⟩)
    | (go_at_call 53; refine (HT.out _).mono ?_; rintro e w5 ⟨rfl, rfl⟩))
  have I7 := Lib.hid (I6.out.step hb)
  clear t0 t1 t2 hb I6
  obtain ⟨t0, t1, t2⟩ := I7.out.three
  have t3 := I7.out.err.cell
  have z0 := I7.out.civ.frozen 0
  have z1 := I7.out.civ.frozen 1
  have z2 := I7.out.civ.frozen 2
  have z3 := I7.out.err.frozen
  go_wp2_with fail
  exact door_ret I7.out rfl rfl
end Go.Proofs.YtiemlpmhhbmfiaaGreatDoor
/- Package civils: Parse of whatever text: all its ways together. -/
namespace Go.Proofs.YtiemlpmhhbmfiaaGreatDoor
open Go.RowKit Go.Shelf

theorem CutOk.size {s R : ByteArray} {a b : Nat} (h : CutOk s R a b) : R.size ≤ s.size := by
  obtain ⟨h3, hR, _⟩ := h
  rw [← hR, ByteArray.size_extract]; omega
theorem parse_none {l : List UInt8} {k : Int} (hE : cpE l = k) (hk : k ≠ 0) (v : Int) : cpV l v = 0 := if_neg (by rw [hE]; exact hk)
theorem zeros_of {f : FuncId} {args : Array Value} {w : World} {l : List UInt8} {k : Int} (hE : cpE l = k) (hk : k ≠ 0)
    (h : Calls Tryz.prog f args w fun e w' => e = .returned (.tuple #[.agg #[.int .i64 0, .int .i64 0, .int .i64 0], .int .i64 k]) ∧ Below w.heap.size w w') :
    Calls Tryz.prog f args w fun e w' => e = .returned (.tuple #[.agg #[.int .i64 (cpV l (cY l)), .int .i64 (cpV l (cM l)), .int .i64 (cpV l (cD l))], .int .i64 (cpE l)]) ∧ Below w.heap.size w w' := by
  rw [parse_none hE hk, parse_none hE hk, parse_none hE hk, hE]
  exact h
theorem pparse_any (s : ByteArray) (w : World) (hs : StartYM w) (hi : StartI w) (hl : s.size ≤ 140737488355328) :
    Calls Tryz.prog 28 #[.string s] w fun e w' => e = .returned (.tuple #[.agg #[.int .i64 (cpV s.data.toList (cY s.data.toList)), .int .i64 (cpV s.data.toList (cM s.data.toList)), .int .i64 (cpV s.data.toList (cD s.data.toList))], .int .i64 (cpE s.data.toList)]) ∧ Below w.heap.size w w' := by
  rcases cut_cases s with ⟨h1, hbad⟩ | ⟨R, a, b, c, d, hc, e1, ec, ed, gc, gd⟩
  · exact zeros_of (by unfold cpE; rw [form_cut1 h1]; rfl) (by decide) (prun_cut1 s w hl hbad)
  · have hRs := hc.size
    rcases cut_cases R with ⟨h1, hbad⟩ | ⟨Q, a', b', c', d', hc', e2, ec', ed', gc', gd'⟩
    · exact zeros_of (by unfold cpE; rw [e1, form_cut2 h1]; rfl) (by decide) (prun_cut2 s R a b _ w hl hc rfl hRs hbad)
    · have hQs := hc'.size
      have e3 : s.data.toList = Q.data.toList ++ [45, c', d', 45, c, d] := by rw [e1, e2]; simp
      have hF : cForm s.data.toList = yOk Q.data.toList := by rw [e3]; exact form_year gc' gd' gc gd
      have hY : cY s.data.toList = yNum Q.data.toList := by rw [e3, sh_Y]; rfl
      have hM : (cM s.data.toList : Int) = (a' : Int) * 10 + b' := by rw [e3, sh_M, ec', ed']; omega
      have hD : (cD s.data.toList : Int) = (a : Int) * 10 + b := by rw [e3, sh_D, ec, ed]; omega
      have hmb : I64 ((a' : Int) * 10 + b') := by obtain ⟨_, _, _, _, _, _, _, _⟩ := hc'; exact ⟨by omega, by omega⟩
      have hdb : I64 ((a : Int) * 10 + b) := by obtain ⟨_, _, _, _, _, _, _, _⟩ := hc; exact ⟨by omega, by omega⟩
      cases hg : yGood (bare Q.data.toList)
      · have hF' : cForm s.data.toList = false := by rw [hF, yOk_good, hg]; rfl
        exact zeros_of (by unfold cpE; rw [hF']; rfl) (by decide) (prun_year s R Q a b a' b' _ _ 5 w hl hc rfl hRs hc' rfl fun X _ => (year_bad Q X (by omega) hg).mono fun _ _ ⟨p, q⟩ => ⟨p, q ▸ Below.refl _ _⟩)
      · have hyr := fun X (hX : Below w.heap.size w X) => year_good Q X (hi.below hX) (by omega) hg
        cases hok : yOk Q.data.toList
        · have hF' : cForm s.data.toList = false := by rw [hF, hok]
          have hend : yEnd Q.data.toList = .panicked (thrown 5) := by unfold yEnd; rw [hok]; rfl
          rw [hend] at hyr
          exact zeros_of (by unfold cpE; rw [hF']; rfl) (by decide) (prun_year s R Q a b a' b' _ _ 5 w hl hc rfl hRs hc' rfl hyr)
        · have hE : cpE s.data.toList = cE (yNum Q.data.toList) ((a' : Int) * 10 + b') ((a : Int) * 10 + b) := by
            unfold cpE; rw [hF, hok, hY, hM, hD]; rfl
          by_cases hfit : -9223372036854775808 ≤ yNum Q.data.toList ∧ yNum Q.data.toList ≤ 9223372036854775807
          · have hend : yEnd Q.data.toList = .returned (.int .i64 (yNum Q.data.toList)) := by unfold yEnd; rw [hok, if_pos rfl, if_pos hfit]
            rw [hend] at hyr
            by_cases h0 : cE (yNum Q.data.toList) ((a' : Int) * 10 + b') ((a : Int) * 10 + b) = 0
            · have hV : ∀ v, cpV s.data.toList v = v := fun v => if_pos (hE.trans h0)
              rw [hV, hV, hV, hE, h0, hY, hM, hD]
              exact prun_ok s R Q a b a' b' _ _ _ w hs hl hc rfl hRs hc' rfl hyr hfit hmb hdb h0
            · exact zeros_of hE h0 (prun_chk s R Q a b a' b' _ _ _ _ w hs hl hc rfl hRs hc' rfl hyr hfit hmb hdb rfl h0)
          · have hend : yEnd Q.data.toList = .panicked (thrown 6) := by unfold yEnd; rw [hok, if_pos rfl, if_neg hfit]
            rw [hend] at hyr
            have hyF : yr (yNum Q.data.toList) = false := by rw [yr_not]; omega
            have h6 : cE (yNum Q.data.toList) ((a' : Int) * 10 + b') ((a : Int) * 10 + b) = 6 := by
              have hm6 : mE (yNum Q.data.toList) ((a' : Int) * 10 + b') = 6 := by unfold mE; rw [hyF]; rfl
              unfold cE
              rw [if_neg (by rw [hm6]; decide), hm6]
            exact zeros_of (hE.trans h6) (by decide) (prun_year s R Q a b a' b' _ _ 6 w hl hc rfl hRs hc' rfl hyr)
end Go.Proofs.YtiemlpmhhbmfiaaGreatDoor
