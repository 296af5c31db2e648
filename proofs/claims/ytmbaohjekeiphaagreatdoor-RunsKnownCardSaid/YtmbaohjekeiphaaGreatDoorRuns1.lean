/- Runs as whole numbers: right ones, their days, whether they touch, what they make together, their order, length and shift. No program is in it. -/
import Derived.Test.YtmbaohjekeiphaaGreatDoorEnds1
import Derived.Test.YtmbaohjekeiphaaGreatDoorQAll
namespace Go.Proofs.YtmbaohjekeiphaaGreatDoor

instance (n : Int) : Decidable (I64 n) := inferInstanceAs (Decidable (_ ∧ _))
/-- A run: its lower end, its upper end. -/
structure Ru where
  i : Int
  d : Int
  j : Int
  e : Int
theorem Ru.eq {r s : Ru} (h1 : r.i = s.i) (h2 : r.d = s.d) (h3 : r.j = s.j) (h4 : r.e = s.e) : r = s := by
  cases r; cases s; simp_all
/-- The zero run. -/
def ru0 : Ru := ⟨0, 0, 0, 0⟩
def Ru.In (r : Ru) : Prop := I8 r.i ∧ I64 r.d ∧ I8 r.j ∧ I64 r.e
/-- The error of a run. -/
def ruE (r : Ru) : Int := if enE r.i r.d = 0 ∧ enE r.j r.e = 0 then (if r.i = 1 ∨ r.j = -1 then 4 else if enC r.i r.d r.j r.e = 1 then 12 else 0) else 5
/-- Whether a right run has a day. -/
def ruH (r : Ru) (n : Int) : Bool := (r.i == -1 || decide (r.d ≤ n)) && (r.j == 1 || decide (n ≤ r.e))
def ruBeg (r s : Ru) : Bool := if s.i = -1 then r.i == -1 else ruH r s.d
def ruOv (r s : Ru) : Bool := ruBeg r s || ruBeg s r
def ruAd (r s : Ru) : Bool := r.j == 0 && (s.i == 0 && (decide (r.e < 9223372036854775807) && r.e + 1 == s.d))
def ruTo (r s : Ru) : Bool := ruOv r s || (ruAd r s || ruAd s r)
/-- The lower one of two lower ends with the higher one of two upper ends; and the other way round. -/
def ruJ (a b : Ru) : Ru := ⟨if enC b.i b.d a.i a.d < 0 then b.i else a.i, if enC b.i b.d a.i a.d < 0 then b.d else a.d, if 0 < enC b.j b.e a.j a.e then b.j else a.j, if 0 < enC b.j b.e a.j a.e then b.e else a.e⟩
def ruK (a b : Ru) : Ru := ⟨if 0 < enC b.i b.d a.i a.d then b.i else a.i, if 0 < enC b.i b.d a.i a.d then b.d else a.d, if enC b.j b.e a.j a.e < 0 then b.j else a.j, if enC b.j b.e a.j a.e < 0 then b.e else a.e⟩
def ruEq (a b : Ru) : Bool := (a.i == b.i && a.d == b.d) && (a.j == b.j && a.e == b.e)
def ruW (a b : Ru) : Bool := ruOv a b && ruEq (ruJ a b) b
def ruC (a b : Ru) : Int := if a.i = b.i ∧ a.d = b.d then enC a.j a.e b.j b.e else enC a.i a.d b.i b.d
/-- The length, and its error. -/
def ruLE (r : Ru) : Int := if r.i = 0 ∧ r.j = 0 then (if I64 (r.e - r.d + 1) then 0 else 15) else 16
def ruL (r : Ru) : Int := if ruLE r = 0 then r.e - r.d + 1 else 0
/-- The shift, and its error. -/
def mvV (i d k : Int) : Int := if i = 0 then d + k else d
def ruSE (r : Ru) (k : Int) : Int := if (r.i = 0 → I64 (r.d + k)) ∧ (r.j = 0 → I64 (r.e + k)) then 0 else 15
def ruS (r : Ru) (k : Int) : Ru := if ruSE r k = 0 then ⟨r.i, mvV r.i r.d k, r.j, mvV r.j r.e k⟩ else ru0

/-- The forms of a right run. -/
inductive Right : Ru → Prop
  | days (d e : Int) (h : d ≤ e) : Right ⟨0, d, 0, e⟩
  | up (d : Int) : Right ⟨0, d, 1, 0⟩
  | down (e : Int) : Right ⟨-1, 0, 0, e⟩
  | all : Right ⟨-1, 0, 1, 0⟩
theorem right_of {r : Ru} (h : ruE r = 0) : Right r := by
  obtain ⟨i, d, j, e⟩ := r
  simp only [ruE] at h
  split at h
  · rename_i hh
    split at h
    · exact absurd h (by decide)
    · rename_i h1
      split at h
      · exact absurd h (by decide)
      · rename_i h2
        rcases enE_cases i d with ⟨_, rfl⟩ | ⟨_, rfl, rfl⟩ | ⟨_, rfl, rfl⟩ | ⟨e1, -⟩
        · rcases enE_cases j e with ⟨_, rfl⟩ | ⟨_, rfl, rfl⟩ | ⟨_, rfl, rfl⟩ | ⟨e1, -⟩
          · refine .days d e ?_
            unfold enC at h2
            by_cases hde : e < d
            · exfalso
              apply h2
              have : ¬ d < e := by omega
              simp [this, hde]
            · omega
          · exact .up d
          · exact absurd (.inr rfl) h1
          · rw [e1] at hh; exact absurd hh.2 (by decide)
        · exact absurd (.inl rfl) h1
        · rcases enE_cases j e with ⟨_, rfl⟩ | ⟨_, rfl, rfl⟩ | ⟨_, rfl, rfl⟩ | ⟨e1, -⟩
          · exact .down e
          · exact .all
          · exact absurd (.inr rfl) h1
          · rw [e1] at hh; exact absurd hh.2 (by decide)
        · rw [e1] at hh; exact absurd hh.1 (by decide)
  · exact absurd h (by decide)
theorem Right.of {r : Ru} (h : Right r) : ruE r = 0 := by
  cases h with
  | days d e h => unfold ruE enE enC; simp only [if_true]; split <;> (try split) <;> (try split) <;> simp_all <;> omega
  | up d => rfl
  | down e => rfl
  | all => rfl
end Go.Proofs.YtmbaohjekeiphaaGreatDoor
/- Runs as whole numbers: what touches, what is made together, what is in common, day by day. No program is in it. -/
namespace Go.Proofs.YtmbaohjekeiphaaGreatDoor

theorem enC_lt (i d j e : Int) : enC i d j e < 0 ↔ (i < j ∨ (i = j ∧ d < e)) := by
  unfold enC
  by_cases h1 : i < j
  · simp [h1]
  · by_cases h2 : j < i
    · simp [h1, h2]; omega
    · by_cases h3 : d < e
      · simp [h1, h2, h3]; omega
      · by_cases h4 : e < d <;> simp [h1, h2, h3, h4]
theorem enC_gt (i d j e : Int) : 0 < enC i d j e ↔ (j < i ∨ (i = j ∧ e < d)) := by
  unfold enC
  by_cases h1 : i < j
  · simp [h1]; omega
  · by_cases h2 : j < i
    · simp [h1, h2]
    · by_cases h3 : d < e
      · simp [h1, h2, h3]; omega
      · by_cases h4 : e < d
        · simp [h1, h2, h3, h4]; omega
        · simp [h1, h2, h3, h4]
theorem enC_anti (i d j e : Int) : enC j e i d = -enC i d j e := by
  unfold enC
  by_cases h1 : i < j
  · have : ¬ j < i := by omega
    simp [h1, this]
  · by_cases h2 : j < i
    · simp [h1, h2]
    · by_cases h3 : d < e
      · have : ¬ e < d := by omega
        simp [h1, h2, h3, this]
      · by_cases h4 : e < d <;> simp [h1, h2, h3, h4]
theorem ruC_anti (a b : Ru) : ruC b a = -ruC a b := by
  unfold ruC
  by_cases h : a.i = b.i ∧ a.d = b.d
  · rw [if_pos h, if_pos ⟨h.1.symm, h.2.symm⟩, enC_anti]
  · rw [if_neg h, if_neg (fun q => h ⟨q.1.symm, q.2.symm⟩), enC_anti]
theorem ruC_small (a b : Ru) : -1 ≤ ruC a b ∧ ruC a b ≤ 1 := by
  have : ∀ i d j e, -1 ≤ enC i d j e ∧ enC i d j e ≤ 1 := fun i d j e => by
    unfold enC
    split
    · omega
    · split
      · omega
      · split
        · omega
        · split <;> omega
  unfold ruC
  split <;> exact this _ _ _ _
theorem ruE_small (a : Ru) : 0 ≤ ruE a ∧ ruE a ≤ 12 := by
  unfold ruE
  split
  · split
    · omega
    · split <;> omega
  · omega
theorem ruTo_comm (a b : Ru) : ruTo a b = ruTo b a := by
  unfold ruTo ruOv
  cases ruBeg a b <;> cases ruBeg b a <;> cases ruAd a b <;> cases ruAd b a <;> rfl
theorem ruOv_comm (a b : Ru) : ruOv a b = ruOv b a := by
  unfold ruOv
  cases ruBeg a b <;> cases ruBeg b a <;> rfl
theorem ruJ_comm (a b : Ru) : ruJ a b = ruJ b a := by
  obtain ⟨i, d, j, e⟩ := a
  obtain ⟨k, f, l, g⟩ := b
  unfold ruJ
  simp only [enC_lt, enC_gt]
  apply Ru.eq
  all_goals
    dsimp only
    split <;> split <;> omega
theorem ruK_comm (a b : Ru) : ruK a b = ruK b a := by
  obtain ⟨i, d, j, e⟩ := a
  obtain ⟨k, f, l, g⟩ := b
  unfold ruK
  simp only [enC_lt, enC_gt]
  apply Ru.eq
  all_goals
    dsimp only
    split <;> split <;> omega
theorem joi_in {a b : Ru} (ha : a.In) (hb : b.In) : (ruJ a b).In := by
  obtain ⟨a1, a2, a3, a4⟩ := ha
  obtain ⟨b1, b2, b3, b4⟩ := hb
  unfold ruJ
  refine ⟨?_, ?_, ?_, ?_⟩ <;> dsimp only <;> split <;> assumption
theorem com_in {a b : Ru} (ha : a.In) (hb : b.In) : (ruK a b).In := by
  obtain ⟨a1, a2, a3, a4⟩ := ha
  obtain ⟨b1, b2, b3, b4⟩ := hb
  unfold ruK
  refine ⟨?_, ?_, ?_, ?_⟩ <;> dsimp only <;> split <;> assumption
theorem ruH_iff (r : Ru) (n : Int) : ruH r n = true ↔ (r.i = -1 ∨ r.d ≤ n) ∧ (r.j = 1 ∨ n ≤ r.e) := by
  unfold ruH
  simp
theorem ruBeg_iff (r s : Ru) : ruBeg r s = true ↔ (s.i = -1 ∧ r.i = -1) ∨ (¬ s.i = -1 ∧ (r.i = -1 ∨ r.d ≤ s.d) ∧ (r.j = 1 ∨ s.d ≤ r.e)) := by
  unfold ruBeg
  by_cases h : s.i = -1
  · rw [if_pos h]; simp [h]
  · rw [if_neg h, ruH_iff]; simp [h]
theorem ruOv_iff (r s : Ru) : ruOv r s = true ↔ (ruBeg r s = true ∨ ruBeg s r = true) := by
  unfold ruOv; simp
theorem ruAd_iff (r s : Ru) : ruAd r s = true ↔ r.j = 0 ∧ s.i = 0 ∧ r.e < 9223372036854775807 ∧ r.e + 1 = s.d := by
  unfold ruAd; simp
theorem ruTo_iff (r s : Ru) : ruTo r s = true ↔ (ruOv r s = true ∨ ruAd r s = true ∨ ruAd s r = true) := by
  unfold ruTo; simp
theorem ruE_right {r : Ru} (h : ruE r = 0) : (r.i = 0 ∨ (r.i = -1 ∧ r.d = 0)) ∧ (r.j = 0 ∨ (r.j = 1 ∧ r.e = 0)) ∧ (r.i = 0 → r.j = 0 → r.d ≤ r.e) := by
  cases right_of h with
  | days d e h' => exact ⟨.inl rfl, .inl rfl, fun _ _ => h'⟩
  | up d => exact ⟨.inl rfl, .inr ⟨rfl, rfl⟩, fun _ h => by simp at h⟩
  | down e => exact ⟨.inr ⟨rfl, rfl⟩, .inl rfl, fun h => by simp at h⟩
  | all => exact ⟨.inr ⟨rfl, rfl⟩, .inr ⟨rfl, rfl⟩, fun h => by simp at h⟩
theorem right_ru {r : Ru} (h1 : r.i = 0 ∨ (r.i = -1 ∧ r.d = 0)) (h2 : r.j = 0 ∨ (r.j = 1 ∧ r.e = 0)) (h3 : r.i = 0 → r.j = 0 → r.d ≤ r.e) : ruE r = 0 := by
  obtain ⟨i, d, j, e⟩ := r
  dsimp only at h1 h2 h3
  rcases h1 with rfl | ⟨rfl, rfl⟩ <;> rcases h2 with rfl | ⟨rfl, rfl⟩
  · exact (Right.days d e (h3 rfl rfl)).of
  · exact (Right.up d).of
  · exact (Right.down e).of
  · exact Right.all.of
/-- The run joined, and the run in common, are right, and have the days that they should have. -/
theorem joi_right {a b : Ru} (ha : ruE a = 0) (hb : ruE b = 0) (_ : ruTo a b = true) : ruE (ruJ a b) = 0 := by
  have a1 := ruE_right ha
  have b1 := ruE_right hb
  apply right_ru
  all_goals
    unfold ruJ
    simp only [enC_lt, enC_gt]
    split <;> (try split) <;> omega
theorem joi_has {a b : Ru} (ha : ruE a = 0) (hb : ruE b = 0) (h : ruTo a b = true) (n : Int) : ruH (ruJ a b) n = (ruH a n || ruH b n) := by
  have a1 := ruE_right ha
  have b1 := ruE_right hb
  rw [ruTo_iff, ruOv_iff, ruBeg_iff, ruBeg_iff, ruAd_iff, ruAd_iff] at h
  rw [Bool.eq_iff_iff, Bool.or_eq_true, ruH_iff, ruH_iff, ruH_iff]
  unfold ruJ
  simp only [enC_lt, enC_gt]
  split <;> split <;> omega
theorem com_right {a b : Ru} (ha : ruE a = 0) (hb : ruE b = 0) (h : ruOv a b = true) : ruE (ruK a b) = 0 := by
  have a1 := ruE_right ha
  have b1 := ruE_right hb
  rw [ruOv_iff, ruBeg_iff, ruBeg_iff] at h
  apply right_ru
  all_goals
    unfold ruK
    simp only [enC_lt, enC_gt]
    split <;> (try split) <;> omega
theorem com_has {a b : Ru} (ha : ruE a = 0) (hb : ruE b = 0) (n : Int) : ruH (ruK a b) n = (ruH a n && ruH b n) := by
  have a1 := ruE_right ha
  have b1 := ruE_right hb
  rw [Bool.eq_iff_iff, Bool.and_eq_true, ruH_iff, ruH_iff, ruH_iff]
  unfold ruK
  simp only [enC_lt, enC_gt]
  split <;> split <;> omega
theorem com_none {a b : Ru} (ha : ruE a = 0) (hb : ruE b = 0) (h : ruOv a b = false) (n : Int) : (ruH a n && ruH b n) = false := by
  have a1 := ruE_right ha
  have b1 := ruE_right hb
  have h' : ¬ ruOv a b = true := by rw [h]; decide
  rw [ruOv_iff, ruBeg_iff, ruBeg_iff] at h'
  rw [Bool.eq_false_iff]
  intro q
  rw [Bool.and_eq_true, ruH_iff, ruH_iff] at q
  apply h'
  omega
end Go.Proofs.YtmbaohjekeiphaaGreatDoor
/- Runs in blocks of memory; the equality of runs. -/
namespace Go.Proofs.YtmbaohjekeiphaaGreatDoor
open Go.RowKit

/-- A run as a value. -/
abbrev U4 (i d j e : Int) : Value := .agg #[.int .i8 i, .int .i64 d, .int .i8 j, .int .i64 e]
abbrev V4 (r : Ru) : Value := U4 r.i r.d r.j r.e
/-- A run in a block of its own. -/
def BkU (w : World) (g : Nat) (i d j e : Int) : Prop := w.heap[g]? = some (.cells #[.int .i8 i, .int .i64 d, .int .i8 j, .int .i64 e] 26 (0, 0))
def Quad (g : Nat) (i d j e : Int) (X : World) : Prop := X.cell? ⟨g, 0, none⟩ = some (.int .i8 i) ∧ X.cell? ⟨g, 1, none⟩ = some (.int .i64 d) ∧ X.cell? ⟨g, 2, none⟩ = some (.int .i8 j) ∧ X.cell? ⟨g, 3, none⟩ = some (.int .i64 e)
theorem BkU.quad {w : World} {g : Nat} {i d j e : Int} (h : BkU w g i d j e) : Quad g i d j e w := ⟨cell_of_row w g 0 _ _ _ h, cell_of_row w g 1 _ _ _ h, cell_of_row w g 2 _ _ _ h, cell_of_row w g 3 _ _ _ h⟩
theorem BkU.frozen {w : World} {g : Nat} {i d j e : Int} (h : BkU w g i d j e) (n : Nat) : w.frozen? ⟨g, n, none⟩ = false := frozen_of_row w g n _ _ h
theorem BkU.below {w w' : World} {g B : Nat} {i d j e : Int} (h : BkU w g i d j e) (hg : g < B) (hb : Below B w w') : BkU w' g i d j e := (hb.block g hg).trans h
def set4 (X : World) (g : Nat) (i d j e : Int) : World := (((X.setCell ⟨g, 0, none⟩ (.int .i8 i)).setCell ⟨g, 1, none⟩ (.int .i64 d)).setCell ⟨g, 2, none⟩ (.int .i8 j)).setCell ⟨g, 3, none⟩ (.int .i64 e)
theorem BkU.store {w : World} {g : Nat} {i d j e : Int} (h : BkU w g i d j e) (i' d' j' e' : Int) : BkU (set4 w g i' d' j' e') g i' d' j' e' :=
  heap_setCell_same _ g 3 _ _ _ (heap_setCell_same _ g 2 _ _ _ (heap_setCell_same _ g 1 _ _ _ (heap_setCell_same w g 0 _ _ _ h)))
theorem BkU.lo {w : World} {g : Nat} {i d j e : Int} (h : BkU w g i d j e) (i' d' : Int) : BkU ((w.setCell ⟨g, 0, none⟩ (.int .i8 i')).setCell ⟨g, 1, none⟩ (.int .i64 d')) g i' d' j e :=
  heap_setCell_same _ g 1 _ _ _ (heap_setCell_same w g 0 _ _ _ h)
theorem BkU.hi {w : World} {g : Nat} {i d j e : Int} (h : BkU w g i d j e) (j' e' : Int) : BkU ((w.setCell ⟨g, 2, none⟩ (.int .i8 j')).setCell ⟨g, 3, none⟩ (.int .i64 e')) g i d j' e' :=
  heap_setCell_same _ g 3 _ _ _ (heap_setCell_same w g 2 _ _ _ h)
theorem run_new (w : World) (i d j e : Int) (W : World) (hW : W = w.alloc (.cells #[.int .i8 i, .int .i64 d, .int .i8 j, .int .i64 e] 26)) : BkU W w.heap.size i d j e ∧ W.heap.size = w.heap.size + 1 ∧ Below w.heap.size w W := by
  subst hW
  exact ⟨heap_alloc_new w _, by simp, by go_grown⟩
theorem run_two (w : World) (i d j e a b c f : Int) (W : World) (hW : W = (w.alloc (.cells #[.int .i8 i, .int .i64 d, .int .i8 j, .int .i64 e] 26)).alloc (.cells #[.int .i8 a, .int .i64 b, .int .i8 c, .int .i64 f] 26)) :
    BkU W w.heap.size i d j e ∧ BkU W (w.heap.size + 1) a b c f ∧ W.heap.size = w.heap.size + 1 + 1 ∧ Below w.heap.size w W := by
  obtain ⟨h1, h2, h3⟩ := run_new w i d j e _ rfl
  generalize (w.alloc (.cells #[.int .i8 i, .int .i64 d, .int .i8 j, .int .i64 e] 26)) = X at *
  obtain ⟨k1, k2, k3⟩ := run_new X a b c f W hW
  rw [h2] at k1 k2
  exact ⟨h1.below (by omega) k3, k1, k2, h3.trans (k3.mono (by omega))⟩
theorem run_three (w : World) (i d j e a b c f p q r s : Int) (W : World) (hW : W = ((w.alloc (.cells #[.int .i8 i, .int .i64 d, .int .i8 j, .int .i64 e] 26)).alloc (.cells #[.int .i8 a, .int .i64 b, .int .i8 c, .int .i64 f] 26)).alloc (.cells #[.int .i8 p, .int .i64 q, .int .i8 r, .int .i64 s] 26)) :
    BkU W w.heap.size i d j e ∧ BkU W (w.heap.size + 1) a b c f ∧ BkU W (w.heap.size + 1 + 1) p q r s ∧ W.heap.size = w.heap.size + 1 + 1 + 1 ∧ Below w.heap.size w W := by
  obtain ⟨h1, h2, h3, h4⟩ := run_two w i d j e a b c f _ rfl
  generalize ((w.alloc (.cells #[.int .i8 i, .int .i64 d, .int .i8 j, .int .i64 e] 26)).alloc (.cells #[.int .i8 a, .int .i64 b, .int .i8 c, .int .i64 f] 26)) = X at *
  obtain ⟨k1, k2, k3⟩ := run_new X p q r s W hW
  rw [h3] at k1 k2
  exact ⟨h1.below (by omega) k3, h2.below (by omega) k3, k1, k2, h4.trans (k3.mono (by omega))⟩
theorem set4_below {w X : World} {B : Nat} (h : Below B w X) {g : Nat} (hg : B ≤ g) (i d j e : Int) : Below B w (set4 X g i d j e) :=
  (((h.setCell (p := ⟨g, 0, none⟩) hg _).setCell (p := ⟨g, 1, none⟩) hg _).setCell (p := ⟨g, 2, none⟩) hg _).setCell (p := ⟨g, 3, none⟩) hg _
theorem res_run1 {fn : Func} {t : Tmp} {tmps : Array Value} {W : World} {g : Nat} {i d j e : Int} (h : fn.results = #[.cell t 26]) (ha : tmps[t]?.getD undef = .pointer (some ⟨g, 0, none⟩)) (hb : Quad g i d j e W) :
    (results fn tmps).run Tryz.prog W = .ok (U4 i d j e) W := by
  obtain ⟨q0, q1, q2, q3⟩ := hb
  simp [results, h, go_sem, ha, q0, q1, q2, q3]
theorem res_run2 {fn : Func} {t r : Tmp} {tmps : Array Value} {W : World} {g : Nat} {i d j e : Int} {z : Value} (h : fn.results = #[.cell t 26, .tmp r]) (ha : tmps[t]?.getD undef = .pointer (some ⟨g, 0, none⟩)) (hz : tmps[r]?.getD undef = z) (hb : Quad g i d j e W) :
    (results fn tmps).run Tryz.prog W = .ok (.tuple #[U4 i d j e, z]) W := by
  obtain ⟨q0, q1, q2, q3⟩ := hb
  simp [results, h, go_sem, ha, hz, q0, q1, q2, q3]

namespace run9
noncomputable def fR (i : Nat) : Field := (Tryz.prog.fieldsOf 26).toList.getD i default
theorem fieldsR : (Tryz.prog.fieldsOf 26).toList = [fR 0, fR 1] := by kernel_rfl
theorem fR0 : (fR 0).name = "Lo" ∧ (fR 0).type = 24 ∧ (fR 0).offset = 0 := ⟨by kernel_rfl, by kernel_rfl, by kernel_rfl⟩
theorem fR1 : (fR 1).name = "Hi" ∧ (fR 1).type = 24 ∧ (fR 1).offset = 2 := ⟨by kernel_rfl, by kernel_rfl, by kernel_rfl⟩
theorem aggE (w : World) : (isAgg 24).run Tryz.prog w = .ok true w := by kernel_rfl
theorem sizeE (w : World) : (sizeOf 24).run Tryz.prog w = .ok 2 w := by kernel_rfl
theorem partE0 (a b c d : Value) (w : World) : (part 24 #[a, b, c, d] 0).run Tryz.prog w = .ok (.agg #[a, b]) w := by
  simp [part, Sem.run_bind]
theorem partE2 (a b c d : Value) (w : World) : (part 24 #[a, b, c, d] 2).run Tryz.prog w = .ok (.agg #[c, d]) w := by
  simp [part, Sem.run_bind]
theorem eqR_any (k : Nat) (a b : Ru) (w : World) : (Op.equalIn (k + 3) 26 (V4 a) (V4 b)).run Tryz.prog w = .ok (ruEq a b) w := by
  rw [run_equalIn_struct w (k + 2) 26 _ _ (by kernel_rfl) (by kernel_rfl), fieldsR]
  have e := end8.eqI_any k
  unfold E2 at e
  unfold ruEq
  cases h1 : (a.i == b.i && a.d == b.d) <;> cases h2 : (a.j == b.j && a.e == b.e)
  all_goals
    simp only [Op.eqFields, fR0, fR1]
    simp [Sem.run_bind, Result.andThen_ok, partE0, partE2, e, h1, h2]
theorem eq_any (a b : Ru) (w : World) : (binOp .eql 26 (V4 a) (V4 b)).run Tryz.prog w = .ok (.bool (ruEq a b)) w := by
  rw [run_eql_struct, eqR_any 9997]; rfl
theorem ne_any (a b : Ru) (w : World) : (binOp .neq 26 (V4 a) (V4 b)).run Tryz.prog w = .ok (.bool (!ruEq a b)) w := by
  rw [run_neq_struct, eqR_any 9997]; rfl
theorem ruEq_self (a : Ru) : ruEq a a = true := by simp [ruEq]
theorem eq_self (a : Ru) (w : World) : (binOp .eql 26 (V4 a) (V4 a)).run Tryz.prog w = .ok (.bool true) w := by rw [eq_any, ruEq_self]
end run9
end Go.Proofs.YtmbaohjekeiphaaGreatDoor
/- The reference of runs (circaref09): Check, Has, Overlap, Touch. -/
namespace Go.Proofs.YtmbaohjekeiphaaGreatDoor
open Go.RowKit

theorem callB9 {f : FuncId} {args : Array Value} {v : Ending} {W X : World} (hc : ∀ X, Calls Tryz.prog f args X fun x w' => x = v ∧ Below X.heap.size X w') (h : Below W.heap.size W X) :
    Calls Tryz.prog f args X fun x w' => x = v ∧ Below W.heap.size W w' := (hc X).mono fun _ _ ⟨h1, h2⟩ => ⟨h1, h.trans (h2.mono h.size)⟩

theorem ruH_cases (i d j e n : Int) : ((i == -1) = true ∧ (j == 1) = true ∧ ruH ⟨i, d, j, e⟩ n = true) ∨ ((i == -1) = true ∧ (j == 1) = false ∧ n ≤ e ∧ ruH ⟨i, d, j, e⟩ n = true) ∨ ((i == -1) = true ∧ (j == 1) = false ∧ ¬ n ≤ e ∧ ruH ⟨i, d, j, e⟩ n = false) ∨
    ((i == -1) = false ∧ d ≤ n ∧ (j == 1) = true ∧ ruH ⟨i, d, j, e⟩ n = true) ∨ ((i == -1) = false ∧ d ≤ n ∧ (j == 1) = false ∧ n ≤ e ∧ ruH ⟨i, d, j, e⟩ n = true) ∨ ((i == -1) = false ∧ d ≤ n ∧ (j == 1) = false ∧ ¬ n ≤ e ∧ ruH ⟨i, d, j, e⟩ n = false) ∨ ((i == -1) = false ∧ ¬ d ≤ n ∧ ruH ⟨i, d, j, e⟩ n = false) := by
  unfold ruH
  by_cases a : i = -1 <;> by_cases b : j = 1 <;> by_cases c : n ≤ e <;> by_cases f : d ≤ n <;> simp [a, b, c, f]
set_option maxRecDepth 100000 in
theorem hasU_any (i d j e n : Int) (w : World) :
    Calls Tryz.prog 22 #[U4 i d j e, .int .i64 n] w fun x w' => x = .returned (.bool (ruH ⟨i, d, j, e⟩ n)) ∧ Below w.heap.size w w' := by
  rcases ruH_cases i d j e n with ⟨h1, h2, q⟩ | ⟨h1, h2, h3, q⟩ | ⟨h1, h2, h3, q⟩ | ⟨h1, h2, h3, q⟩ | ⟨h1, h2, h3, h4, q⟩ | ⟨h1, h2, h3, h4, q⟩ | ⟨h1, h2, q⟩
  all_goals
    rw [q]; clear q
    go_enter Tryz.func22, Tryz.ntmps22
    go_upto_region 1 with fail
    obtain ⟨hK, hs, hb⟩ := run_new w i d j e _ rfl
    generalize (w.alloc (Obj.cells #[Value.int IntKind.i8 i, Value.int IntKind.i64 d, Value.int IntKind.i8 j, Value.int IntKind.i64 e] 26)) = W1 at *
    obtain ⟨f0, f1, f2, f3⟩ := hK.quad
    clear hK hs
    go_wp2
    go_ret
    exact ⟨rfl, hb⟩

set_option maxRecDepth 100000 in
theorem begU_any (i d j e a b c f : Int) (w : World) :
    Calls Tryz.prog 41 #[U4 i d j e, U4 a b c f] w fun x w' => x = .returned (.bool (ruBeg ⟨i, d, j, e⟩ ⟨a, b, c, f⟩)) ∧ Below w.heap.size w w' := by
  have hH := fun X => hasU_any i d j e b X
  by_cases q : a = -1
  · have q2 : (a == -1) = true := beq_iff_eq.2 q
    rw [show ruBeg ⟨i, d, j, e⟩ ⟨a, b, c, f⟩ = (i == -1) from if_pos q]
    clear q hH
    go_enter Tryz.func41, Tryz.ntmps41
    go_upto_region 1 with fail
    obtain ⟨hK, hL, hs, hb⟩ := run_two w i d j e a b c f _ rfl
    generalize ((w.alloc (Obj.cells #[Value.int IntKind.i8 i, Value.int IntKind.i64 d, Value.int IntKind.i8 j, Value.int IntKind.i64 e] 26)).alloc (Obj.cells #[Value.int IntKind.i8 a, Value.int IntKind.i64 b, Value.int IntKind.i8 c, Value.int IntKind.i64 f] 26)) = W1 at *
    obtain ⟨k0, k1, k2, k3⟩ := id hK.quad
    obtain ⟨l0, l1, l2, l3⟩ := id hL.quad
    have hX := Below.refl W1.heap.size W1
    go_wp2_with fail
    go_ret
    exact ⟨rfl, hb.trans (hX.mono (by omega))⟩
  · have q2 : (a == -1) = false := beq_eq_false_iff_ne.2 q
    rw [show ruBeg ⟨i, d, j, e⟩ ⟨a, b, c, f⟩ = ruH ⟨i, d, j, e⟩ b from if_neg q]
    clear q
    generalize ruH ⟨i, d, j, e⟩ b = r at *
    go_enter Tryz.func41, Tryz.ntmps41
    go_upto_region 1 with fail
    obtain ⟨hK, hL, hs, hb⟩ := run_two w i d j e a b c f _ rfl
    generalize ((w.alloc (Obj.cells #[Value.int IntKind.i8 i, Value.int IntKind.i64 d, Value.int IntKind.i8 j, Value.int IntKind.i64 e] 26)).alloc (Obj.cells #[Value.int IntKind.i8 a, Value.int IntKind.i64 b, Value.int IntKind.i8 c, Value.int IntKind.i64 f] 26)) = W1 at *
    obtain ⟨k0, k1, k2, k3⟩ := id hK.quad
    obtain ⟨l0, l1, l2, l3⟩ := id hL.quad
    have hX := Below.refl W1.heap.size W1
    have HH := Lib.hid (fun X (h : Below W1.heap.size W1 X) => callB9 hH h)
    clear hH
    go_wp2_with (go_at_call 22; ((with_reducible refine (HH.out _ hX).mono ?_); rintro z w2 ⟨rfl, hk⟩; (try clear hX); have hX := hk; (try clear m0 m1 m2 m3 n0 n1 n2 n3); obtain ⟨m0, m1, m2, m3⟩ := (hK.below (by omega) hk).quad; obtain ⟨n0, n1, n2, n3⟩ := (hL.below (by omega) hk).quad; clear hk))
    go_ret
    exact ⟨rfl, hb.trans (hX.mono (by omega))⟩

theorem ruAd_cases (i d j e a b c f : Int) : ((j == 0) = false ∧ ruAd ⟨i, d, j, e⟩ ⟨a, b, c, f⟩ = false) ∨ ((j == 0) = true ∧ (a == 0) = false ∧ ruAd ⟨i, d, j, e⟩ ⟨a, b, c, f⟩ = false) ∨ ((j == 0) = true ∧ (a == 0) = true ∧ ¬ e < 9223372036854775807 ∧ ruAd ⟨i, d, j, e⟩ ⟨a, b, c, f⟩ = false) ∨
    ((j == 0) = true ∧ (a == 0) = true ∧ e < 9223372036854775807 ∧ ruAd ⟨i, d, j, e⟩ ⟨a, b, c, f⟩ = (e + 1 == b)) := by
  unfold ruAd
  cases h1 : (j == 0) <;> cases h2 : (a == 0) <;> by_cases h3 : e < 9223372036854775807 <;> simp [h3]
set_option maxRecDepth 100000 in
theorem adjU_any (i d j e a b c f : Int) (w : World) (he : I64 e) :
    Calls Tryz.prog 40 #[U4 i d j e, U4 a b c f] w fun x w' => x = .returned (.bool (ruAd ⟨i, d, j, e⟩ ⟨a, b, c, f⟩)) ∧ Below w.heap.size w w' := by
  obtain ⟨he0, he1⟩ := he
  rcases ruAd_cases i d j e a b c f with ⟨h1, q⟩ | ⟨h1, h2, q⟩ | ⟨h1, h2, h3, q⟩ | ⟨h1, h2, h3, q⟩
  all_goals
    rw [q]; clear q
    go_enter Tryz.func40, Tryz.ntmps40
    go_upto_region 1 with fail
    obtain ⟨hK, hL, hs, hb⟩ := run_two w i d j e a b c f _ rfl
    generalize ((w.alloc (Obj.cells #[Value.int IntKind.i8 i, Value.int IntKind.i64 d, Value.int IntKind.i8 j, Value.int IntKind.i64 e] 26)).alloc (Obj.cells #[Value.int IntKind.i8 a, Value.int IntKind.i64 b, Value.int IntKind.i8 c, Value.int IntKind.i64 f] 26)) = W1 at *
    obtain ⟨k0, k1, k2, k3⟩ := id hK.quad
    obtain ⟨l0, l1, l2, l3⟩ := id hL.quad
    have hX := Below.refl W1.heap.size W1
    go_wp2_with fail
    go_ret
    exact ⟨rfl, hb.trans (hX.mono (by omega))⟩

set_option maxRecDepth 100000 in
theorem ovU_any (i d j e a b c f : Int) (w : World) :
    Calls Tryz.prog 12 #[U4 i d j e, U4 a b c f] w fun x w' => x = .returned (.bool (ruOv ⟨i, d, j, e⟩ ⟨a, b, c, f⟩)) ∧ Below w.heap.size w w' := by
  have h1 := fun X => begU_any i d j e a b c f X
  have h2 := fun X => begU_any a b c f i d j e X
  unfold ruOv
  generalize ruBeg ⟨a, b, c, f⟩ ⟨i, d, j, e⟩ = q at *
  cases hp : ruBeg ⟨i, d, j, e⟩ ⟨a, b, c, f⟩
  all_goals
    rw [hp] at h1
    clear hp
    go_enter Tryz.func12, Tryz.ntmps12
    go_upto_region 1 with fail
    obtain ⟨hK, hL, hs, hb⟩ := run_two w i d j e a b c f _ rfl
    generalize ((w.alloc (Obj.cells #[Value.int IntKind.i8 i, Value.int IntKind.i64 d, Value.int IntKind.i8 j, Value.int IntKind.i64 e] 26)).alloc (Obj.cells #[Value.int IntKind.i8 a, Value.int IntKind.i64 b, Value.int IntKind.i8 c, Value.int IntKind.i64 f] 26)) = W1 at *
    obtain ⟨k0, k1, k2, k3⟩ := id hK.quad
    obtain ⟨l0, l1, l2, l3⟩ := id hL.quad
    have hX := Below.refl W1.heap.size W1
    have H1 := Lib.hid (fun X (h : Below W1.heap.size W1 X) => callB9 h1 h)
    have H2 := Lib.hid (fun X (h : Below W1.heap.size W1 X) => callB9 h2 h)
    clear h1 h2
    go_wp2_with (first
      | (go_at_call 41; ((with_reducible refine (H1.out _ hX).mono ?_); rintro z w2 ⟨rfl, hk⟩; (try clear hX); have hX := hk; (try clear m0 m1 m2 m3 n0 n1 n2 n3); obtain ⟨m0, m1, m2, m3⟩ := (hK.below (by omega) hk).quad; obtain ⟨n0, n1, n2, n3⟩ := (hL.below (by omega) hk).quad; clear hk))
      | (go_at_call 41; ((with_reducible refine (H2.out _ hX).mono ?_); rintro z w2 ⟨rfl, hk⟩; (try clear hX); have hX := hk; (try clear m0 m1 m2 m3 n0 n1 n2 n3); obtain ⟨m0, m1, m2, m3⟩ := (hK.below (by omega) hk).quad; obtain ⟨n0, n1, n2, n3⟩ := (hL.below (by omega) hk).quad; clear hk)))
    go_ret
    exact ⟨rfl, hb.trans (hX.mono (by omega))⟩

set_option maxRecDepth 100000 in
theorem toU_any (i d j e a b c f : Int) (w : World) (he : I64 e) (hf : I64 f) :
    Calls Tryz.prog 11 #[U4 i d j e, U4 a b c f] w fun x w' => x = .returned (.bool (ruTo ⟨i, d, j, e⟩ ⟨a, b, c, f⟩)) ∧ Below w.heap.size w w' := by
  have h1 := fun X => ovU_any i d j e a b c f X
  have h2 := fun X => adjU_any i d j e a b c f X he
  have h3 := fun X => adjU_any a b c f i d j e X hf
  unfold ruTo
  clear he hf
  generalize ruAd ⟨a, b, c, f⟩ ⟨i, d, j, e⟩ = q at *
  cases hp : ruOv ⟨i, d, j, e⟩ ⟨a, b, c, f⟩ <;> cases hq : ruAd ⟨i, d, j, e⟩ ⟨a, b, c, f⟩
  all_goals
    rw [hp] at h1
    rw [hq] at h2
    clear hp hq
    go_enter Tryz.func11, Tryz.ntmps11
    go_upto_region 1 with fail
    obtain ⟨hK, hL, hs, hb⟩ := run_two w i d j e a b c f _ rfl
    generalize ((w.alloc (Obj.cells #[Value.int IntKind.i8 i, Value.int IntKind.i64 d, Value.int IntKind.i8 j, Value.int IntKind.i64 e] 26)).alloc (Obj.cells #[Value.int IntKind.i8 a, Value.int IntKind.i64 b, Value.int IntKind.i8 c, Value.int IntKind.i64 f] 26)) = W1 at *
    obtain ⟨k0, k1, k2, k3⟩ := id hK.quad
    obtain ⟨l0, l1, l2, l3⟩ := id hL.quad
    have hX := Below.refl W1.heap.size W1
    have H1 := Lib.hid (fun X (h : Below W1.heap.size W1 X) => callB9 h1 h)
    have H2 := Lib.hid (fun X (h : Below W1.heap.size W1 X) => callB9 h2 h)
    have H3 := Lib.hid (fun X (h : Below W1.heap.size W1 X) => callB9 h3 h)
    clear h1 h2 h3
    go_wp2_with (first
      | (go_at_call 12; ((with_reducible refine (H1.out _ hX).mono ?_); rintro z w2 ⟨rfl, hk⟩; (try clear hX); have hX := hk; (try clear m0 m1 m2 m3 n0 n1 n2 n3); obtain ⟨m0, m1, m2, m3⟩ := (hK.below (by omega) hk).quad; obtain ⟨n0, n1, n2, n3⟩ := (hL.below (by omega) hk).quad; clear hk))
      | (go_at_call 40; ((with_reducible refine (H2.out _ hX).mono ?_); rintro z w2 ⟨rfl, hk⟩; (try clear hX); have hX := hk; (try clear m0 m1 m2 m3 n0 n1 n2 n3); obtain ⟨m0, m1, m2, m3⟩ := (hK.below (by omega) hk).quad; obtain ⟨n0, n1, n2, n3⟩ := (hL.below (by omega) hk).quad; clear hk))
      | (go_at_call 40; ((with_reducible refine (H3.out _ hX).mono ?_); rintro z w2 ⟨rfl, hk⟩; (try clear hX); have hX := hk; (try clear m0 m1 m2 m3 n0 n1 n2 n3); obtain ⟨m0, m1, m2, m3⟩ := (hK.below (by omega) hk).quad; obtain ⟨n0, n1, n2, n3⟩ := (hL.below (by omega) hk).quad; clear hk)))
    go_ret
    exact ⟨rfl, hb.trans (hX.mono (by omega))⟩
end Go.Proofs.YtmbaohjekeiphaaGreatDoor
/- The reference of runs (circaref09): Check, Compare, Join, Common, Within. -/
namespace Go.Proofs.YtmbaohjekeiphaaGreatDoor
open Go.RowKit

theorem enE_two (i d : Int) : enE i d = 0 ∨ enE i d = 5 := by
  rcases enE_cases i d with ⟨h, -⟩ | ⟨h, -⟩ | ⟨h, -⟩ | ⟨h, -⟩ <;> simp [h]
theorem ruE_cases (i d j e : Int) : (enE i d = 5 ∧ ruE ⟨i, d, j, e⟩ = 5) ∨ (enE i d = 0 ∧ enE j e = 5 ∧ ruE ⟨i, d, j, e⟩ = 5) ∨ (enE i d = 0 ∧ enE j e = 0 ∧ (i == 1) = true ∧ ruE ⟨i, d, j, e⟩ = 4) ∨
    (enE i d = 0 ∧ enE j e = 0 ∧ (i == 1) = false ∧ (j == -1) = true ∧ ruE ⟨i, d, j, e⟩ = 4) ∨ (enE i d = 0 ∧ enE j e = 0 ∧ (i == 1) = false ∧ (j == -1) = false ∧ (enC i d j e == 1) = true ∧ ruE ⟨i, d, j, e⟩ = 12) ∨
    (enE i d = 0 ∧ enE j e = 0 ∧ (i == 1) = false ∧ (j == -1) = false ∧ (enC i d j e == 1) = false ∧ ruE ⟨i, d, j, e⟩ = 0) := by
  unfold ruE
  rcases enE_two i d with h1 | h1 <;> rcases enE_two j e with h2 | h2
  · by_cases h3 : i = 1
    · subst h3; simp [h1, h2]
    · by_cases h4 : j = -1
      · subst h4; simp [h1, h2, h3]
      · by_cases h5 : enC i d j e = 1 <;> simp [h1, h2, h3, h4, h5]
  · simp [h1, h2]
  · simp [h1]
  · simp [h1]

set_option maxRecDepth 100000 in
theorem chkU_any (i d j e : Int) (w : World) :
    Calls Tryz.prog 7 #[U4 i d j e] w fun x w' => x = .returned (.int .i64 (ruE ⟨i, d, j, e⟩)) ∧ Below w.heap.size w w' := by
  have h1 := fun X => chkE_any i d X
  have h2 := fun X => chkE_any j e X
  have h3 := fun X => cmpE_any i d j e X
  rcases ruE_cases i d j e with ⟨a1, q⟩ | ⟨a1, a2, q⟩ | ⟨a1, a2, a3, q⟩ | ⟨a1, a2, a3, a4, q⟩ | ⟨a1, a2, a3, a4, a5, q⟩ | ⟨a1, a2, a3, a4, a5, q⟩
  all_goals
    rw [a1] at h1
    rw [q]
    (try rw [a2] at h2)
    clear q a1
    (try clear a2)
    generalize enC i d j e = c at *
    go_enter Tryz.func7, Tryz.ntmps7
    go_upto_region 1 with fail
    obtain ⟨hK, hs, hb⟩ := run_new w i d j e _ rfl
    generalize (w.alloc (Obj.cells #[Value.int IntKind.i8 i, Value.int IntKind.i64 d, Value.int IntKind.i8 j, Value.int IntKind.i64 e] 26)) = W1 at *
    obtain ⟨k0, k1, k2, k3⟩ := id hK.quad
    have hX := Below.refl W1.heap.size W1
    have H1 := Lib.hid (fun X (h : Below W1.heap.size W1 X) => callB9 h1 h)
    have H2 := Lib.hid (fun X (h : Below W1.heap.size W1 X) => callB9 h2 h)
    have H3 := Lib.hid (fun X (h : Below W1.heap.size W1 X) => callB9 h3 h)
    clear h1 h2 h3
    go_wp2_with (first
      | (go_at_call 34; ((with_reducible refine (H1.out _ hX).mono ?_); rintro z w2 ⟨rfl, hk⟩; (try clear hX); have hX := hk; (try clear m0 m1 m2 m3); obtain ⟨m0, m1, m2, m3⟩ := (hK.below (by omega) hk).quad; clear hk))
      | (go_at_call 34; ((with_reducible refine (H2.out _ hX).mono ?_); rintro z w2 ⟨rfl, hk⟩; (try clear hX); have hX := hk; (try clear m0 m1 m2 m3); obtain ⟨m0, m1, m2, m3⟩ := (hK.below (by omega) hk).quad; clear hk))
      | (go_at_call 35; ((with_reducible refine (H3.out _ hX).mono ?_); rintro z w2 ⟨rfl, hk⟩; (try clear hX); have hX := hk; (try clear m0 m1 m2 m3); obtain ⟨m0, m1, m2, m3⟩ := (hK.below (by omega) hk).quad; clear hk)))
    go_ret
    exact ⟨rfl, hb.trans (hX.mono (by omega))⟩

theorem ruC_cases (i d j e a b c f : Int) : (end8.eqE i d a b = true ∧ ruC ⟨i, d, j, e⟩ ⟨a, b, c, f⟩ = enC j e c f) ∨ (end8.eqE i d a b = false ∧ ruC ⟨i, d, j, e⟩ ⟨a, b, c, f⟩ = enC i d a b) := by
  unfold ruC end8.eqE
  by_cases h1 : i = a <;> by_cases h2 : d = b <;> simp [h1, h2]
set_option maxRecDepth 100000 in
theorem cmpU_any (i d j e a b c f : Int) (w : World) :
    Calls Tryz.prog 10 #[U4 i d j e, U4 a b c f] w fun x w' => x = .returned (.int .i64 (ruC ⟨i, d, j, e⟩ ⟨a, b, c, f⟩)) ∧ Below w.heap.size w w' := by
  have h1 := fun X => cmpE_any i d a b X
  have h2 := fun X => cmpE_any j e c f X
  have hn := fun w => end8.ne_any i d a b w
  rcases ruC_cases i d j e a b c f with ⟨q1, q⟩ | ⟨q1, q⟩
  all_goals
    rw [q1] at hn
    rw [q]
    clear q q1
    generalize enC i d a b = x at *
    generalize enC j e c f = y at *
    go_enter Tryz.func10, Tryz.ntmps10
    go_upto_region 1 with fail
    obtain ⟨hK, hL, hs, hb⟩ := run_two w i d j e a b c f _ rfl
    generalize ((w.alloc (Obj.cells #[Value.int IntKind.i8 i, Value.int IntKind.i64 d, Value.int IntKind.i8 j, Value.int IntKind.i64 e] 26)).alloc (Obj.cells #[Value.int IntKind.i8 a, Value.int IntKind.i64 b, Value.int IntKind.i8 c, Value.int IntKind.i64 f] 26)) = W1 at *
    obtain ⟨k0, k1, k2, k3⟩ := id hK.quad
    obtain ⟨l0, l1, l2, l3⟩ := id hL.quad
    have hX := Below.refl W1.heap.size W1
    have H1 := Lib.hid (fun X (h : Below W1.heap.size W1 X) => callB9 h1 h)
    have H2 := Lib.hid (fun X (h : Below W1.heap.size W1 X) => callB9 h2 h)
    clear h1 h2
    go_wp2_with (first
      | (go_at_call 35; ((with_reducible refine (H1.out _ hX).mono ?_); rintro z w2 ⟨rfl, hk⟩; (try clear hX); have hX := hk; (try clear m0 m1 m2 m3 n0 n1 n2 n3); obtain ⟨m0, m1, m2, m3⟩ := (hK.below (by omega) hk).quad; obtain ⟨n0, n1, n2, n3⟩ := (hL.below (by omega) hk).quad; clear hk))
      | (go_at_call 35; ((with_reducible refine (H2.out _ hX).mono ?_); rintro z w2 ⟨rfl, hk⟩; (try clear hX); have hX := hk; (try clear m0 m1 m2 m3 n0 n1 n2 n3); obtain ⟨m0, m1, m2, m3⟩ := (hK.below (by omega) hk).quad; obtain ⟨n0, n1, n2, n3⟩ := (hL.below (by omega) hk).quad; clear hk)))
    go_ret
    exact ⟨rfl, hb.trans (hX.mono (by omega))⟩
end Go.Proofs.YtmbaohjekeiphaaGreatDoor
/- The reference of runs (circaref09): Join, Common, Within. -/
namespace Go.Proofs.YtmbaohjekeiphaaGreatDoor
open Go.RowKit

theorem lt_of_heap9 {X : World} {r : Nat} {o : Obj} (h : X.heap[r]? = some o) : r < X.heap.size := by
  rcases Nat.lt_or_ge r X.heap.size with h' | h'
  · exact h'
  · simp [Array.getElem?_eq_none h'] at h
theorem setH_below {w X : World} {B : Nat} (h : Below B w X) {g : Nat} (hg : B ≤ g) (x y : Int) : Below B w ((X.setCell ⟨g, 2, none⟩ (.int .i8 x)).setCell ⟨g, 3, none⟩ (.int .i64 y)) :=
  (h.setCell (p := ⟨g, 2, none⟩) hg _).setCell (p := ⟨g, 3, none⟩) hg _

set_option maxRecDepth 100000 in
set_option maxHeartbeats 1000000 in
theorem joiU_any (i d j e a b c f : Int) (w : World) :
    Calls Tryz.prog 17 #[U4 i d j e, U4 a b c f] w fun x w' => x = .returned (V4 (ruJ ⟨i, d, j, e⟩ ⟨a, b, c, f⟩)) ∧ Below w.heap.size w w' := by
  have h1 := fun X => cmpE_any a b i d X
  have h2 := fun X => cmpE_any c f j e X
  unfold ruJ
  dsimp only
  generalize enC a b i d = x at *
  generalize enC c f j e = y at *
  by_cases q1 : x < 0 <;> by_cases q2 : 0 < y
  · simp only [if_pos q1, if_pos q2]
    go_enter Tryz.func17, Tryz.ntmps17
    go_upto_region 1 with fail
    obtain ⟨hK, hL, hZ, hs, hb⟩ := run_three w i d j e a b c f 0 0 0 0 _ rfl
    generalize (((w.alloc (Obj.cells #[Value.int IntKind.i8 i, Value.int IntKind.i64 d, Value.int IntKind.i8 j, Value.int IntKind.i64 e] 26)).alloc (Obj.cells #[Value.int IntKind.i8 a, Value.int IntKind.i64 b, Value.int IntKind.i8 c, Value.int IntKind.i64 f] 26)).alloc (Obj.cells #[Value.int IntKind.i8 0, Value.int IntKind.i64 0, Value.int IntKind.i8 0, Value.int IntKind.i64 0] 26)) = W1 at *
    have hlt : w.heap.size + 1 + 1 < W1.heap.size := by omega
    clear hs
    obtain ⟨k0, k1, k2, k3⟩ := id hK.quad
    obtain ⟨l0, l1, l2, l3⟩ := id hL.quad
    go_upto_region 2 with fail
    obtain ⟨hM, hs2, hb2⟩ := run_new W1 i d j e _ rfl
    generalize (W1.alloc (Obj.cells #[Value.int IntKind.i8 i, Value.int IntKind.i64 d, Value.int IntKind.i8 j, Value.int IntKind.i64 e] 26)) = W2 at *
    have hlt2 : W1.heap.size < W2.heap.size := by omega
    clear hs2 k0 k1 k2 k3 l0 l1 l2 l3
    generalize W1.heap.size = g at *
    obtain ⟨k0, k1, k2, k3⟩ := (hK.below (by omega) hb2).quad
    obtain ⟨l0, l1, l2, l3⟩ := (hL.below (by omega) hb2).quad
    obtain ⟨o0, o1, o2, o3⟩ := id hM.quad
    have H1 := Lib.hid (fun X (h : Below W2.heap.size W2 X) => callB9 h1 h)
    clear h1
    go_upto_region 4 with (go_at_call 35; ((with_reducible refine (H1.out _ (Below.refl _ _)).mono ?_); rintro z w3 ⟨rfl, hk⟩; (try clear hX); have hX := hb2.trans (hk.mono (Nat.le_of_lt hlt2)); have hM3 := hM.below hlt2 hk; obtain ⟨m0, m1, m2, m3⟩ := (hK.below (by omega) hX).quad; obtain ⟨n0, n1, n2, n3⟩ := (hL.below (by omega) hX).quad; obtain ⟨p0, p1, p2, p3⟩ := id hM3.quad; have y0 := hM3.frozen 0; have y1 := hM3.frozen 1))
    have hM4 := hM3.lo a b
    have hX4 := set2_below hX (Nat.le_refl _) a b
    clear hM3 hX m0 m1 m2 m3 n0 n1 n2 n3 p0 p1 p2 p3 y0 y1 k0 k1 k2 k3 l0 l1 l2 l3 o0 o1 o2 o3 H1 hM hb2 hlt2
    generalize ((w3.setCell ⟨g, 0, none⟩ (.int .i8 a)).setCell ⟨g, 1, none⟩ (.int .i64 b)) = W4 at *
    have hg : g < W4.heap.size := lt_of_heap9 hM4
    obtain ⟨k0, k1, k2, k3⟩ := (hK.below (by omega) hX4).quad
    obtain ⟨l0, l1, l2, l3⟩ := (hL.below (by omega) hX4).quad
    obtain ⟨o0, o1, o2, o3⟩ := id hM4.quad
    have H2 := Lib.hid (fun X (h : Below W4.heap.size W4 X) => callB9 h2 h)
    clear h2
    go_upto_region 6 with (go_at_call 35; ((with_reducible refine (H2.out _ (Below.refl _ _)).mono ?_); rintro z w5 ⟨rfl, hk⟩; (try clear hX); have hX := hX4.trans (hk.mono (Nat.le_of_lt hg)); have hM5 := hM4.below hg hk; obtain ⟨m0, m1, m2, m3⟩ := (hK.below (by omega) hX).quad; obtain ⟨n0, n1, n2, n3⟩ := (hL.below (by omega) hX).quad; obtain ⟨p0, p1, p2, p3⟩ := id hM5.quad; have y2 := hM5.frozen 2; have y3 := hM5.frozen 3))
    have hM6 := hM5.hi c f
    have hX6 := setH_below hX (Nat.le_refl _) c f
    clear hM5 hX m0 m1 m2 m3 n0 n1 n2 n3 p0 p1 p2 p3 y2 y3 k0 k1 k2 k3 l0 l1 l2 l3 o0 o1 o2 o3 H2 hM4 hX4 hg
    generalize ((w5.setCell ⟨g, 2, none⟩ (.int .i8 c)).setCell ⟨g, 3, none⟩ (.int .i64 f)) = W6 at *
    obtain ⟨o0, o1, o2, o3⟩ := id hM6.quad
    have HZ := Lib.hid (hZ.below hlt hX6)
    obtain ⟨z0, z1, z2, z3⟩ := HZ.out.quad
    have y0 := HZ.out.frozen 0
    have y1 := HZ.out.frozen 1
    have y2 := HZ.out.frozen 2
    have y3 := HZ.out.frozen 3
    have HB := Lib.hid (hb.trans (hX6.mono (by omega)))
    clear hX6 hb
    go_wp2_with fail
    exact bodyPost_ret (res_run1 rfl rfl (HZ.out.store a b c f).quad) rfl ⟨rfl, set4_below HB.out (by omega) a b c f⟩
  · simp only [if_pos q1, if_neg q2]
    go_enter Tryz.func17, Tryz.ntmps17
    go_upto_region 1 with fail
    obtain ⟨hK, hL, hZ, hs, hb⟩ := run_three w i d j e a b c f 0 0 0 0 _ rfl
    generalize (((w.alloc (Obj.cells #[Value.int IntKind.i8 i, Value.int IntKind.i64 d, Value.int IntKind.i8 j, Value.int IntKind.i64 e] 26)).alloc (Obj.cells #[Value.int IntKind.i8 a, Value.int IntKind.i64 b, Value.int IntKind.i8 c, Value.int IntKind.i64 f] 26)).alloc (Obj.cells #[Value.int IntKind.i8 0, Value.int IntKind.i64 0, Value.int IntKind.i8 0, Value.int IntKind.i64 0] 26)) = W1 at *
    have hlt : w.heap.size + 1 + 1 < W1.heap.size := by omega
    clear hs
    obtain ⟨k0, k1, k2, k3⟩ := id hK.quad
    obtain ⟨l0, l1, l2, l3⟩ := id hL.quad
    go_upto_region 2 with fail
    obtain ⟨hM, hs2, hb2⟩ := run_new W1 i d j e _ rfl
    generalize (W1.alloc (Obj.cells #[Value.int IntKind.i8 i, Value.int IntKind.i64 d, Value.int IntKind.i8 j, Value.int IntKind.i64 e] 26)) = W2 at *
    have hlt2 : W1.heap.size < W2.heap.size := by omega
    clear hs2 k0 k1 k2 k3 l0 l1 l2 l3
    generalize W1.heap.size = g at *
    obtain ⟨k0, k1, k2, k3⟩ := (hK.below (by omega) hb2).quad
    obtain ⟨l0, l1, l2, l3⟩ := (hL.below (by omega) hb2).quad
    obtain ⟨o0, o1, o2, o3⟩ := id hM.quad
    have H1 := Lib.hid (fun X (h : Below W2.heap.size W2 X) => callB9 h1 h)
    clear h1
    go_upto_region 4 with (go_at_call 35; ((with_reducible refine (H1.out _ (Below.refl _ _)).mono ?_); rintro z w3 ⟨rfl, hk⟩; (try clear hX); have hX := hb2.trans (hk.mono (Nat.le_of_lt hlt2)); have hM3 := hM.below hlt2 hk; obtain ⟨m0, m1, m2, m3⟩ := (hK.below (by omega) hX).quad; obtain ⟨n0, n1, n2, n3⟩ := (hL.below (by omega) hX).quad; obtain ⟨p0, p1, p2, p3⟩ := id hM3.quad; have y0 := hM3.frozen 0; have y1 := hM3.frozen 1))
    have hM4 := hM3.lo a b
    have hX4 := set2_below hX (Nat.le_refl _) a b
    clear hM3 hX m0 m1 m2 m3 n0 n1 n2 n3 p0 p1 p2 p3 y0 y1 k0 k1 k2 k3 l0 l1 l2 l3 o0 o1 o2 o3 H1 hM hb2 hlt2
    generalize ((w3.setCell ⟨g, 0, none⟩ (.int .i8 a)).setCell ⟨g, 1, none⟩ (.int .i64 b)) = W4 at *
    have hg : g < W4.heap.size := lt_of_heap9 hM4
    obtain ⟨k0, k1, k2, k3⟩ := (hK.below (by omega) hX4).quad
    obtain ⟨l0, l1, l2, l3⟩ := (hL.below (by omega) hX4).quad
    obtain ⟨o0, o1, o2, o3⟩ := id hM4.quad
    have H2 := Lib.hid (fun X (h : Below W4.heap.size W4 X) => callB9 h2 h)
    clear h2
    go_upto_region 6 with (go_at_call 35; ((with_reducible refine (H2.out _ (Below.refl _ _)).mono ?_); rintro z w5 ⟨rfl, hk⟩; (try clear hX); have hX := hX4.trans (hk.mono (Nat.le_of_lt hg)); have hM5 := hM4.below hg hk; obtain ⟨m0, m1, m2, m3⟩ := (hK.below (by omega) hX).quad; obtain ⟨n0, n1, n2, n3⟩ := (hL.below (by omega) hX).quad; obtain ⟨p0, p1, p2, p3⟩ := id hM5.quad; have y2 := hM5.frozen 2; have y3 := hM5.frozen 3))
    have hM6 := hM5
    have hX6 := hX
    clear hM5 hX m0 m1 m2 m3 n0 n1 n2 n3 p0 p1 p2 p3 y2 y3 k0 k1 k2 k3 l0 l1 l2 l3 o0 o1 o2 o3 H2 hM4 hX4 hg
    generalize w5 = W6 at *
    obtain ⟨o0, o1, o2, o3⟩ := id hM6.quad
    have HZ := Lib.hid (hZ.below hlt hX6)
    obtain ⟨z0, z1, z2, z3⟩ := HZ.out.quad
    have y0 := HZ.out.frozen 0
    have y1 := HZ.out.frozen 1
    have y2 := HZ.out.frozen 2
    have y3 := HZ.out.frozen 3
    have HB := Lib.hid (hb.trans (hX6.mono (by omega)))
    clear hX6 hb
    go_wp2_with fail
    exact bodyPost_ret (res_run1 rfl rfl (HZ.out.store a b j e).quad) rfl ⟨rfl, set4_below HB.out (by omega) a b j e⟩
  · simp only [if_neg q1, if_pos q2]
    go_enter Tryz.func17, Tryz.ntmps17
    go_upto_region 1 with fail
    obtain ⟨hK, hL, hZ, hs, hb⟩ := run_three w i d j e a b c f 0 0 0 0 _ rfl
    generalize (((w.alloc (Obj.cells #[Value.int IntKind.i8 i, Value.int IntKind.i64 d, Value.int IntKind.i8 j, Value.int IntKind.i64 e] 26)).alloc (Obj.cells #[Value.int IntKind.i8 a, Value.int IntKind.i64 b, Value.int IntKind.i8 c, Value.int IntKind.i64 f] 26)).alloc (Obj.cells #[Value.int IntKind.i8 0, Value.int IntKind.i64 0, Value.int IntKind.i8 0, Value.int IntKind.i64 0] 26)) = W1 at *
    have hlt : w.heap.size + 1 + 1 < W1.heap.size := by omega
    clear hs
    obtain ⟨k0, k1, k2, k3⟩ := id hK.quad
    obtain ⟨l0, l1, l2, l3⟩ := id hL.quad
    go_upto_region 2 with fail
    obtain ⟨hM, hs2, hb2⟩ := run_new W1 i d j e _ rfl
    generalize (W1.alloc (Obj.cells #[Value.int IntKind.i8 i, Value.int IntKind.i64 d, Value.int IntKind.i8 j, Value.int IntKind.i64 e] 26)) = W2 at *
    have hlt2 : W1.heap.size < W2.heap.size := by omega
    clear hs2 k0 k1 k2 k3 l0 l1 l2 l3
    generalize W1.heap.size = g at *
    obtain ⟨k0, k1, k2, k3⟩ := (hK.below (by omega) hb2).quad
    obtain ⟨l0, l1, l2, l3⟩ := (hL.below (by omega) hb2).quad
    obtain ⟨o0, o1, o2, o3⟩ := id hM.quad
    have H1 := Lib.hid (fun X (h : Below W2.heap.size W2 X) => callB9 h1 h)
    clear h1
    go_upto_region 4 with (go_at_call 35; ((with_reducible refine (H1.out _ (Below.refl _ _)).mono ?_); rintro z w3 ⟨rfl, hk⟩; (try clear hX); have hX := hb2.trans (hk.mono (Nat.le_of_lt hlt2)); have hM3 := hM.below hlt2 hk; obtain ⟨m0, m1, m2, m3⟩ := (hK.below (by omega) hX).quad; obtain ⟨n0, n1, n2, n3⟩ := (hL.below (by omega) hX).quad; obtain ⟨p0, p1, p2, p3⟩ := id hM3.quad; have y0 := hM3.frozen 0; have y1 := hM3.frozen 1))
    have hM4 := hM3
    have hX4 := hX
    clear hM3 hX m0 m1 m2 m3 n0 n1 n2 n3 p0 p1 p2 p3 y0 y1 k0 k1 k2 k3 l0 l1 l2 l3 o0 o1 o2 o3 H1 hM hb2 hlt2
    generalize w3 = W4 at *
    have hg : g < W4.heap.size := lt_of_heap9 hM4
    obtain ⟨k0, k1, k2, k3⟩ := (hK.below (by omega) hX4).quad
    obtain ⟨l0, l1, l2, l3⟩ := (hL.below (by omega) hX4).quad
    obtain ⟨o0, o1, o2, o3⟩ := id hM4.quad
    have H2 := Lib.hid (fun X (h : Below W4.heap.size W4 X) => callB9 h2 h)
    clear h2
    go_upto_region 6 with (go_at_call 35; ((with_reducible refine (H2.out _ (Below.refl _ _)).mono ?_); rintro z w5 ⟨rfl, hk⟩; (try clear hX); have hX := hX4.trans (hk.mono (Nat.le_of_lt hg)); have hM5 := hM4.below hg hk; obtain ⟨m0, m1, m2, m3⟩ := (hK.below (by omega) hX).quad; obtain ⟨n0, n1, n2, n3⟩ := (hL.below (by omega) hX).quad; obtain ⟨p0, p1, p2, p3⟩ := id hM5.quad; have y2 := hM5.frozen 2; have y3 := hM5.frozen 3))
    have hM6 := hM5.hi c f
    have hX6 := setH_below hX (Nat.le_refl _) c f
    clear hM5 hX m0 m1 m2 m3 n0 n1 n2 n3 p0 p1 p2 p3 y2 y3 k0 k1 k2 k3 l0 l1 l2 l3 o0 o1 o2 o3 H2 hM4 hX4 hg
    generalize ((w5.setCell ⟨g, 2, none⟩ (.int .i8 c)).setCell ⟨g, 3, none⟩ (.int .i64 f)) = W6 at *
    obtain ⟨o0, o1, o2, o3⟩ := id hM6.quad
    have HZ := Lib.hid (hZ.below hlt hX6)
    obtain ⟨z0, z1, z2, z3⟩ := HZ.out.quad
    have y0 := HZ.out.frozen 0
    have y1 := HZ.out.frozen 1
    have y2 := HZ.out.frozen 2
    have y3 := HZ.out.frozen 3
    have HB := Lib.hid (hb.trans (hX6.mono (by omega)))
    clear hX6 hb
    go_wp2_with fail
    exact bodyPost_ret (res_run1 rfl rfl (HZ.out.store i d c f).quad) rfl ⟨rfl, set4_below HB.out (by omega) i d c f⟩
  · simp only [if_neg q1, if_neg q2]
    go_enter Tryz.func17, Tryz.ntmps17
    go_upto_region 1 with fail
    obtain ⟨hK, hL, hZ, hs, hb⟩ := run_three w i d j e a b c f 0 0 0 0 _ rfl
    generalize (((w.alloc (Obj.cells #[Value.int IntKind.i8 i, Value.int IntKind.i64 d, Value.int IntKind.i8 j, Value.int IntKind.i64 e] 26)).alloc (Obj.cells #[Value.int IntKind.i8 a, Value.int IntKind.i64 b, Value.int IntKind.i8 c, Value.int IntKind.i64 f] 26)).alloc (Obj.cells #[Value.int IntKind.i8 0, Value.int IntKind.i64 0, Value.int IntKind.i8 0, Value.int IntKind.i64 0] 26)) = W1 at *
    have hlt : w.heap.size + 1 + 1 < W1.heap.size := by omega
    clear hs
    obtain ⟨k0, k1, k2, k3⟩ := id hK.quad
    obtain ⟨l0, l1, l2, l3⟩ := id hL.quad
    go_upto_region 2 with fail
    obtain ⟨hM, hs2, hb2⟩ := run_new W1 i d j e _ rfl
    generalize (W1.alloc (Obj.cells #[Value.int IntKind.i8 i, Value.int IntKind.i64 d, Value.int IntKind.i8 j, Value.int IntKind.i64 e] 26)) = W2 at *
    have hlt2 : W1.heap.size < W2.heap.size := by omega
    clear hs2 k0 k1 k2 k3 l0 l1 l2 l3
    generalize W1.heap.size = g at *
    obtain ⟨k0, k1, k2, k3⟩ := (hK.below (by omega) hb2).quad
    obtain ⟨l0, l1, l2, l3⟩ := (hL.below (by omega) hb2).quad
    obtain ⟨o0, o1, o2, o3⟩ := id hM.quad
    have H1 := Lib.hid (fun X (h : Below W2.heap.size W2 X) => callB9 h1 h)
    clear h1
    go_upto_region 4 with (go_at_call 35; ((with_reducible refine (H1.out _ (Below.refl _ _)).mono ?_); rintro z w3 ⟨rfl, hk⟩; (try clear hX); have hX := hb2.trans (hk.mono (Nat.le_of_lt hlt2)); have hM3 := hM.below hlt2 hk; obtain ⟨m0, m1, m2, m3⟩ := (hK.below (by omega) hX).quad; obtain ⟨n0, n1, n2, n3⟩ := (hL.below (by omega) hX).quad; obtain ⟨p0, p1, p2, p3⟩ := id hM3.quad; have y0 := hM3.frozen 0; have y1 := hM3.frozen 1))
    have hM4 := hM3
    have hX4 := hX
    clear hM3 hX m0 m1 m2 m3 n0 n1 n2 n3 p0 p1 p2 p3 y0 y1 k0 k1 k2 k3 l0 l1 l2 l3 o0 o1 o2 o3 H1 hM hb2 hlt2
    generalize w3 = W4 at *
    have hg : g < W4.heap.size := lt_of_heap9 hM4
    obtain ⟨k0, k1, k2, k3⟩ := (hK.below (by omega) hX4).quad
    obtain ⟨l0, l1, l2, l3⟩ := (hL.below (by omega) hX4).quad
    obtain ⟨o0, o1, o2, o3⟩ := id hM4.quad
    have H2 := Lib.hid (fun X (h : Below W4.heap.size W4 X) => callB9 h2 h)
    clear h2
    go_upto_region 6 with (go_at_call 35; ((with_reducible refine (H2.out _ (Below.refl _ _)).mono ?_); rintro z w5 ⟨rfl, hk⟩; (try clear hX); have hX := hX4.trans (hk.mono (Nat.le_of_lt hg)); have hM5 := hM4.below hg hk; obtain ⟨m0, m1, m2, m3⟩ := (hK.below (by omega) hX).quad; obtain ⟨n0, n1, n2, n3⟩ := (hL.below (by omega) hX).quad; obtain ⟨p0, p1, p2, p3⟩ := id hM5.quad; have y2 := hM5.frozen 2; have y3 := hM5.frozen 3))
    have hM6 := hM5
    have hX6 := hX
    clear hM5 hX m0 m1 m2 m3 n0 n1 n2 n3 p0 p1 p2 p3 y2 y3 k0 k1 k2 k3 l0 l1 l2 l3 o0 o1 o2 o3 H2 hM4 hX4 hg
    generalize w5 = W6 at *
    obtain ⟨o0, o1, o2, o3⟩ := id hM6.quad
    have HZ := Lib.hid (hZ.below hlt hX6)
    obtain ⟨z0, z1, z2, z3⟩ := HZ.out.quad
    have y0 := HZ.out.frozen 0
    have y1 := HZ.out.frozen 1
    have y2 := HZ.out.frozen 2
    have y3 := HZ.out.frozen 3
    have HB := Lib.hid (hb.trans (hX6.mono (by omega)))
    clear hX6 hb
    go_wp2_with fail
    exact bodyPost_ret (res_run1 rfl rfl (HZ.out.store i d j e).quad) rfl ⟨rfl, set4_below HB.out (by omega) i d j e⟩

set_option maxRecDepth 100000 in
set_option maxHeartbeats 1000000 in
theorem comU_any (i d j e a b c f : Int) (w : World) :
    Calls Tryz.prog 18 #[U4 i d j e, U4 a b c f] w fun x w' => x = .returned (V4 (ruK ⟨i, d, j, e⟩ ⟨a, b, c, f⟩)) ∧ Below w.heap.size w w' := by
  have h1 := fun X => cmpE_any a b i d X
  have h2 := fun X => cmpE_any c f j e X
  unfold ruK
  dsimp only
  generalize enC a b i d = x at *
  generalize enC c f j e = y at *
  by_cases q1 : 0 < x <;> by_cases q2 : y < 0
  · simp only [if_pos q1, if_pos q2]
    go_enter Tryz.func18, Tryz.ntmps18
    go_upto_region 1 with fail
    obtain ⟨hK, hL, hZ, hs, hb⟩ := run_three w i d j e a b c f 0 0 0 0 _ rfl
    generalize (((w.alloc (Obj.cells #[Value.int IntKind.i8 i, Value.int IntKind.i64 d, Value.int IntKind.i8 j, Value.int IntKind.i64 e] 26)).alloc (Obj.cells #[Value.int IntKind.i8 a, Value.int IntKind.i64 b, Value.int IntKind.i8 c, Value.int IntKind.i64 f] 26)).alloc (Obj.cells #[Value.int IntKind.i8 0, Value.int IntKind.i64 0, Value.int IntKind.i8 0, Value.int IntKind.i64 0] 26)) = W1 at *
    have hlt : w.heap.size + 1 + 1 < W1.heap.size := by omega
    clear hs
    obtain ⟨k0, k1, k2, k3⟩ := id hK.quad
    obtain ⟨l0, l1, l2, l3⟩ := id hL.quad
    go_upto_region 2 with fail
    obtain ⟨hM, hs2, hb2⟩ := run_new W1 i d j e _ rfl
    generalize (W1.alloc (Obj.cells #[Value.int IntKind.i8 i, Value.int IntKind.i64 d, Value.int IntKind.i8 j, Value.int IntKind.i64 e] 26)) = W2 at *
    have hlt2 : W1.heap.size < W2.heap.size := by omega
    clear hs2 k0 k1 k2 k3 l0 l1 l2 l3
    generalize W1.heap.size = g at *
    obtain ⟨k0, k1, k2, k3⟩ := (hK.below (by omega) hb2).quad
    obtain ⟨l0, l1, l2, l3⟩ := (hL.below (by omega) hb2).quad
    obtain ⟨o0, o1, o2, o3⟩ := id hM.quad
    have H1 := Lib.hid (fun X (h : Below W2.heap.size W2 X) => callB9 h1 h)
    clear h1
    go_upto_region 4 with (go_at_call 35; ((with_reducible refine (H1.out _ (Below.refl _ _)).mono ?_); rintro z w3 ⟨rfl, hk⟩; (try clear hX); have hX := hb2.trans (hk.mono (Nat.le_of_lt hlt2)); have hM3 := hM.below hlt2 hk; obtain ⟨m0, m1, m2, m3⟩ := (hK.below (by omega) hX).quad; obtain ⟨n0, n1, n2, n3⟩ := (hL.below (by omega) hX).quad; obtain ⟨p0, p1, p2, p3⟩ := id hM3.quad; have y0 := hM3.frozen 0; have y1 := hM3.frozen 1))
    have hM4 := hM3.lo a b
    have hX4 := set2_below hX (Nat.le_refl _) a b
    clear hM3 hX m0 m1 m2 m3 n0 n1 n2 n3 p0 p1 p2 p3 y0 y1 k0 k1 k2 k3 l0 l1 l2 l3 o0 o1 o2 o3 H1 hM hb2 hlt2
    generalize ((w3.setCell ⟨g, 0, none⟩ (.int .i8 a)).setCell ⟨g, 1, none⟩ (.int .i64 b)) = W4 at *
    have hg : g < W4.heap.size := lt_of_heap9 hM4
    obtain ⟨k0, k1, k2, k3⟩ := (hK.below (by omega) hX4).quad
    obtain ⟨l0, l1, l2, l3⟩ := (hL.below (by omega) hX4).quad
    obtain ⟨o0, o1, o2, o3⟩ := id hM4.quad
    have H2 := Lib.hid (fun X (h : Below W4.heap.size W4 X) => callB9 h2 h)
    clear h2
    go_upto_region 6 with (go_at_call 35; ((with_reducible refine (H2.out _ (Below.refl _ _)).mono ?_); rintro z w5 ⟨rfl, hk⟩; (try clear hX); have hX := hX4.trans (hk.mono (Nat.le_of_lt hg)); have hM5 := hM4.below hg hk; obtain ⟨m0, m1, m2, m3⟩ := (hK.below (by omega) hX).quad; obtain ⟨n0, n1, n2, n3⟩ := (hL.below (by omega) hX).quad; obtain ⟨p0, p1, p2, p3⟩ := id hM5.quad; have y2 := hM5.frozen 2; have y3 := hM5.frozen 3))
    have hM6 := hM5.hi c f
    have hX6 := setH_below hX (Nat.le_refl _) c f
    clear hM5 hX m0 m1 m2 m3 n0 n1 n2 n3 p0 p1 p2 p3 y2 y3 k0 k1 k2 k3 l0 l1 l2 l3 o0 o1 o2 o3 H2 hM4 hX4 hg
    generalize ((w5.setCell ⟨g, 2, none⟩ (.int .i8 c)).setCell ⟨g, 3, none⟩ (.int .i64 f)) = W6 at *
    obtain ⟨o0, o1, o2, o3⟩ := id hM6.quad
    have HZ := Lib.hid (hZ.below hlt hX6)
    obtain ⟨z0, z1, z2, z3⟩ := HZ.out.quad
    have y0 := HZ.out.frozen 0
    have y1 := HZ.out.frozen 1
    have y2 := HZ.out.frozen 2
    have y3 := HZ.out.frozen 3
    have HB := Lib.hid (hb.trans (hX6.mono (by omega)))
    clear hX6 hb
    go_wp2_with fail
    exact bodyPost_ret (res_run1 rfl rfl (HZ.out.store a b c f).quad) rfl ⟨rfl, set4_below HB.out (by omega) a b c f⟩
  · simp only [if_pos q1, if_neg q2]
    go_enter Tryz.func18, Tryz.ntmps18
    go_upto_region 1 with fail
    obtain ⟨hK, hL, hZ, hs, hb⟩ := run_three w i d j e a b c f 0 0 0 0 _ rfl
    generalize (((w.alloc (Obj.cells #[Value.int IntKind.i8 i, Value.int IntKind.i64 d, Value.int IntKind.i8 j, Value.int IntKind.i64 e] 26)).alloc (Obj.cells #[Value.int IntKind.i8 a, Value.int IntKind.i64 b, Value.int IntKind.i8 c, Value.int IntKind.i64 f] 26)).alloc (Obj.cells #[Value.int IntKind.i8 0, Value.int IntKind.i64 0, Value.int IntKind.i8 0, Value.int IntKind.i64 0] 26)) = W1 at *
    have hlt : w.heap.size + 1 + 1 < W1.heap.size := by omega
    clear hs
    obtain ⟨k0, k1, k2, k3⟩ := id hK.quad
    obtain ⟨l0, l1, l2, l3⟩ := id hL.quad
    go_upto_region 2 with fail
    obtain ⟨hM, hs2, hb2⟩ := run_new W1 i d j e _ rfl
    generalize (W1.alloc (Obj.cells #[Value.int IntKind.i8 i, Value.int IntKind.i64 d, Value.int IntKind.i8 j, Value.int IntKind.i64 e] 26)) = W2 at *
    have hlt2 : W1.heap.size < W2.heap.size := by omega
    clear hs2 k0 k1 k2 k3 l0 l1 l2 l3
    generalize W1.heap.size = g at *
    obtain ⟨k0, k1, k2, k3⟩ := (hK.below (by omega) hb2).quad
    obtain ⟨l0, l1, l2, l3⟩ := (hL.below (by omega) hb2).quad
    obtain ⟨o0, o1, o2, o3⟩ := id hM.quad
    have H1 := Lib.hid (fun X (h : Below W2.heap.size W2 X) => callB9 h1 h)
    clear h1
    go_upto_region 4 with (go_at_call 35; ((with_reducible refine (H1.out _ (Below.refl _ _)).mono ?_); rintro z w3 ⟨rfl, hk⟩; (try clear hX); have hX := hb2.trans (hk.mono (Nat.le_of_lt hlt2)); have hM3 := hM.below hlt2 hk; obtain ⟨m0, m1, m2, m3⟩ := (hK.below (by omega) hX).quad; obtain ⟨n0, n1, n2, n3⟩ := (hL.below (by omega) hX).quad; obtain ⟨p0, p1, p2, p3⟩ := id hM3.quad; have y0 := hM3.frozen 0; have y1 := hM3.frozen 1))
    have hM4 := hM3.lo a b
    have hX4 := set2_below hX (Nat.le_refl _) a b
    clear hM3 hX m0 m1 m2 m3 n0 n1 n2 n3 p0 p1 p2 p3 y0 y1 k0 k1 k2 k3 l0 l1 l2 l3 o0 o1 o2 o3 H1 hM hb2 hlt2
    generalize ((w3.setCell ⟨g, 0, none⟩ (.int .i8 a)).setCell ⟨g, 1, none⟩ (.int .i64 b)) = W4 at *
    have hg : g < W4.heap.size := lt_of_heap9 hM4
    obtain ⟨k0, k1, k2, k3⟩ := (hK.below (by omega) hX4).quad
    obtain ⟨l0, l1, l2, l3⟩ := (hL.below (by omega) hX4).quad
    obtain ⟨o0, o1, o2, o3⟩ := id hM4.quad
    have H2 := Lib.hid (fun X (h : Below W4.heap.size W4 X) => callB9 h2 h)
    clear h2
    go_upto_region 6 with (go_at_call 35; ((with_reducible refine (H2.out _ (Below.refl _ _)).mono ?_); rintro z w5 ⟨rfl, hk⟩; (try clear hX); have hX := hX4.trans (hk.mono (Nat.le_of_lt hg)); have hM5 := hM4.below hg hk; obtain ⟨m0, m1, m2, m3⟩ := (hK.below (by omega) hX).quad; obtain ⟨n0, n1, n2, n3⟩ := (hL.below (by omega) hX).quad; obtain ⟨p0, p1, p2, p3⟩ := id hM5.quad; have y2 := hM5.frozen 2; have y3 := hM5.frozen 3))
    have hM6 := hM5
    have hX6 := hX
    clear hM5 hX m0 m1 m2 m3 n0 n1 n2 n3 p0 p1 p2 p3 y2 y3 k0 k1 k2 k3 l0 l1 l2 l3 o0 o1 o2 o3 H2 hM4 hX4 hg
    generalize w5 = W6 at *
    obtain ⟨o0, o1, o2, o3⟩ := id hM6.quad
    have HZ := Lib.hid (hZ.below hlt hX6)
    obtain ⟨z0, z1, z2, z3⟩ := HZ.out.quad
    have y0 := HZ.out.frozen 0
    have y1 := HZ.out.frozen 1
    have y2 := HZ.out.frozen 2
    have y3 := HZ.out.frozen 3
    have HB := Lib.hid (hb.trans (hX6.mono (by omega)))
    clear hX6 hb
    go_wp2_with fail
    exact bodyPost_ret (res_run1 rfl rfl (HZ.out.store a b j e).quad) rfl ⟨rfl, set4_below HB.out (by omega) a b j e⟩
  · simp only [if_neg q1, if_pos q2]
    go_enter Tryz.func18, Tryz.ntmps18
    go_upto_region 1 with fail
    obtain ⟨hK, hL, hZ, hs, hb⟩ := run_three w i d j e a b c f 0 0 0 0 _ rfl
    generalize (((w.alloc (Obj.cells #[Value.int IntKind.i8 i, Value.int IntKind.i64 d, Value.int IntKind.i8 j, Value.int IntKind.i64 e] 26)).alloc (Obj.cells #[Value.int IntKind.i8 a, Value.int IntKind.i64 b, Value.int IntKind.i8 c, Value.int IntKind.i64 f] 26)).alloc (Obj.cells #[Value.int IntKind.i8 0, Value.int IntKind.i64 0, Value.int IntKind.i8 0, Value.int IntKind.i64 0] 26)) = W1 at *
    have hlt : w.heap.size + 1 + 1 < W1.heap.size := by omega
    clear hs
    obtain ⟨k0, k1, k2, k3⟩ := id hK.quad
    obtain ⟨l0, l1, l2, l3⟩ := id hL.quad
    go_upto_region 2 with fail
    obtain ⟨hM, hs2, hb2⟩ := run_new W1 i d j e _ rfl
    generalize (W1.alloc (Obj.cells #[Value.int IntKind.i8 i, Value.int IntKind.i64 d, Value.int IntKind.i8 j, Value.int IntKind.i64 e] 26)) = W2 at *
    have hlt2 : W1.heap.size < W2.heap.size := by omega
    clear hs2 k0 k1 k2 k3 l0 l1 l2 l3
    generalize W1.heap.size = g at *
    obtain ⟨k0, k1, k2, k3⟩ := (hK.below (by omega) hb2).quad
    obtain ⟨l0, l1, l2, l3⟩ := (hL.below (by omega) hb2).quad
    obtain ⟨o0, o1, o2, o3⟩ := id hM.quad
    have H1 := Lib.hid (fun X (h : Below W2.heap.size W2 X) => callB9 h1 h)
    clear h1
    go_upto_region 4 with (go_at_call 35; ((with_reducible refine (H1.out _ (Below.refl _ _)).mono ?_); rintro z w3 ⟨rfl, hk⟩; (try clear hX); have hX := hb2.trans (hk.mono (Nat.le_of_lt hlt2)); have hM3 := hM.below hlt2 hk; obtain ⟨m0, m1, m2, m3⟩ := (hK.below (by omega) hX).quad; obtain ⟨n0, n1, n2, n3⟩ := (hL.below (by omega) hX).quad; obtain ⟨p0, p1, p2, p3⟩ := id hM3.quad; have y0 := hM3.frozen 0; have y1 := hM3.frozen 1))
    have hM4 := hM3
    have hX4 := hX
    clear hM3 hX m0 m1 m2 m3 n0 n1 n2 n3 p0 p1 p2 p3 y0 y1 k0 k1 k2 k3 l0 l1 l2 l3 o0 o1 o2 o3 H1 hM hb2 hlt2
    generalize w3 = W4 at *
    have hg : g < W4.heap.size := lt_of_heap9 hM4
    obtain ⟨k0, k1, k2, k3⟩ := (hK.below (by omega) hX4).quad
    obtain ⟨l0, l1, l2, l3⟩ := (hL.below (by omega) hX4).quad
    obtain ⟨o0, o1, o2, o3⟩ := id hM4.quad
    have H2 := Lib.hid (fun X (h : Below W4.heap.size W4 X) => callB9 h2 h)
    clear h2
    go_upto_region 6 with (go_at_call 35; ((with_reducible refine (H2.out _ (Below.refl _ _)).mono ?_); rintro z w5 ⟨rfl, hk⟩; (try clear hX); have hX := hX4.trans (hk.mono (Nat.le_of_lt hg)); have hM5 := hM4.below hg hk; obtain ⟨m0, m1, m2, m3⟩ := (hK.below (by omega) hX).quad; obtain ⟨n0, n1, n2, n3⟩ := (hL.below (by omega) hX).quad; obtain ⟨p0, p1, p2, p3⟩ := id hM5.quad; have y2 := hM5.frozen 2; have y3 := hM5.frozen 3))
    have hM6 := hM5.hi c f
    have hX6 := setH_below hX (Nat.le_refl _) c f
    clear hM5 hX m0 m1 m2 m3 n0 n1 n2 n3 p0 p1 p2 p3 y2 y3 k0 k1 k2 k3 l0 l1 l2 l3 o0 o1 o2 o3 H2 hM4 hX4 hg
    generalize ((w5.setCell ⟨g, 2, none⟩ (.int .i8 c)).setCell ⟨g, 3, none⟩ (.int .i64 f)) = W6 at *
    obtain ⟨o0, o1, o2, o3⟩ := id hM6.quad
    have HZ := Lib.hid (hZ.below hlt hX6)
    obtain ⟨z0, z1, z2, z3⟩ := HZ.out.quad
    have y0 := HZ.out.frozen 0
    have y1 := HZ.out.frozen 1
    have y2 := HZ.out.frozen 2
    have y3 := HZ.out.frozen 3
    have HB := Lib.hid (hb.trans (hX6.mono (by omega)))
    clear hX6 hb
    go_wp2_with fail
    exact bodyPost_ret (res_run1 rfl rfl (HZ.out.store i d c f).quad) rfl ⟨rfl, set4_below HB.out (by omega) i d c f⟩
  · simp only [if_neg q1, if_neg q2]
    go_enter Tryz.func18, Tryz.ntmps18
    go_upto_region 1 with fail
    obtain ⟨hK, hL, hZ, hs, hb⟩ := run_three w i d j e a b c f 0 0 0 0 _ rfl
    generalize (((w.alloc (Obj.cells #[Value.int IntKind.i8 i, Value.int IntKind.i64 d, Value.int IntKind.i8 j, Value.int IntKind.i64 e] 26)).alloc (Obj.cells #[Value.int IntKind.i8 a, Value.int IntKind.i64 b, Value.int IntKind.i8 c, Value.int IntKind.i64 f] 26)).alloc (Obj.cells #[Value.int IntKind.i8 0, Value.int IntKind.i64 0, Value.int IntKind.i8 0, Value.int IntKind.i64 0] 26)) = W1 at *
    have hlt : w.heap.size + 1 + 1 < W1.heap.size := by omega
    clear hs
    obtain ⟨k0, k1, k2, k3⟩ := id hK.quad
    obtain ⟨l0, l1, l2, l3⟩ := id hL.quad
    go_upto_region 2 with fail
    obtain ⟨hM, hs2, hb2⟩ := run_new W1 i d j e _ rfl
    generalize (W1.alloc (Obj.cells #[Value.int IntKind.i8 i, Value.int IntKind.i64 d, Value.int IntKind.i8 j, Value.int IntKind.i64 e] 26)) = W2 at *
    have hlt2 : W1.heap.size < W2.heap.size := by omega
    clear hs2 k0 k1 k2 k3 l0 l1 l2 l3
    generalize W1.heap.size = g at *
    obtain ⟨k0, k1, k2, k3⟩ := (hK.below (by omega) hb2).quad
    obtain ⟨l0, l1, l2, l3⟩ := (hL.below (by omega) hb2).quad
    obtain ⟨o0, o1, o2, o3⟩ := id hM.quad
    have H1 := Lib.hid (fun X (h : Below W2.heap.size W2 X) => callB9 h1 h)
    clear h1
    go_upto_region 4 with (go_at_call 35; ((with_reducible refine (H1.out _ (Below.refl _ _)).mono ?_); rintro z w3 ⟨rfl, hk⟩; (try clear hX); have hX := hb2.trans (hk.mono (Nat.le_of_lt hlt2)); have hM3 := hM.below hlt2 hk; obtain ⟨m0, m1, m2, m3⟩ := (hK.below (by omega) hX).quad; obtain ⟨n0, n1, n2, n3⟩ := (hL.below (by omega) hX).quad; obtain ⟨p0, p1, p2, p3⟩ := id hM3.quad; have y0 := hM3.frozen 0; have y1 := hM3.frozen 1))
    have hM4 := hM3
    have hX4 := hX
    clear hM3 hX m0 m1 m2 m3 n0 n1 n2 n3 p0 p1 p2 p3 y0 y1 k0 k1 k2 k3 l0 l1 l2 l3 o0 o1 o2 o3 H1 hM hb2 hlt2
    generalize w3 = W4 at *
    have hg : g < W4.heap.size := lt_of_heap9 hM4
    obtain ⟨k0, k1, k2, k3⟩ := (hK.below (by omega) hX4).quad
    obtain ⟨l0, l1, l2, l3⟩ := (hL.below (by omega) hX4).quad
    obtain ⟨o0, o1, o2, o3⟩ := id hM4.quad
    have H2 := Lib.hid (fun X (h : Below W4.heap.size W4 X) => callB9 h2 h)
    clear h2
    go_upto_region 6 with (go_at_call 35; ((with_reducible refine (H2.out _ (Below.refl _ _)).mono ?_); rintro z w5 ⟨rfl, hk⟩; (try clear hX); have hX := hX4.trans (hk.mono (Nat.le_of_lt hg)); have hM5 := hM4.below hg hk; obtain ⟨m0, m1, m2, m3⟩ := (hK.below (by omega) hX).quad; obtain ⟨n0, n1, n2, n3⟩ := (hL.below (by omega) hX).quad; obtain ⟨p0, p1, p2, p3⟩ := id hM5.quad; have y2 := hM5.frozen 2; have y3 := hM5.frozen 3))
    have hM6 := hM5
    have hX6 := hX
    clear hM5 hX m0 m1 m2 m3 n0 n1 n2 n3 p0 p1 p2 p3 y2 y3 k0 k1 k2 k3 l0 l1 l2 l3 o0 o1 o2 o3 H2 hM4 hX4 hg
    generalize w5 = W6 at *
    obtain ⟨o0, o1, o2, o3⟩ := id hM6.quad
    have HZ := Lib.hid (hZ.below hlt hX6)
    obtain ⟨z0, z1, z2, z3⟩ := HZ.out.quad
    have y0 := HZ.out.frozen 0
    have y1 := HZ.out.frozen 1
    have y2 := HZ.out.frozen 2
    have y3 := HZ.out.frozen 3
    have HB := Lib.hid (hb.trans (hX6.mono (by omega)))
    clear hX6 hb
    go_wp2_with fail
    exact bodyPost_ret (res_run1 rfl rfl (HZ.out.store i d j e).quad) rfl ⟨rfl, set4_below HB.out (by omega) i d j e⟩
end Go.Proofs.YtmbaohjekeiphaaGreatDoor
/- The reference of runs (circaref09): Within, end, Shift, Len. -/
namespace Go.Proofs.YtmbaohjekeiphaaGreatDoor
open Go.RowKit

theorem lim_two : 1180591620717411303424 < lim := by unfold lim; decide
set_option maxRecDepth 100000 in
theorem witU_any (i d j e a b c f : Int) (w : World) :
    Calls Tryz.prog 20 #[U4 i d j e, U4 a b c f] w fun x w' => x = .returned (.bool (ruW ⟨i, d, j, e⟩ ⟨a, b, c, f⟩)) ∧ Below w.heap.size w w' := by
  have h1 := fun X => ovU_any i d j e a b c f X
  have h2 := fun X => joiU_any i d j e a b c f X
  have hq := fun w => run9.eq_any (ruJ ⟨i, d, j, e⟩ ⟨a, b, c, f⟩) ⟨a, b, c, f⟩ w
  unfold ruW
  generalize ruEq (ruJ ⟨i, d, j, e⟩ ⟨a, b, c, f⟩) ⟨a, b, c, f⟩ = q at *
  generalize ruJ ⟨i, d, j, e⟩ ⟨a, b, c, f⟩ = s at *
  obtain ⟨s0, s1, s2, s3⟩ := s
  cases hp : ruOv ⟨i, d, j, e⟩ ⟨a, b, c, f⟩
  all_goals
    rw [hp] at h1
    clear hp
  · clear h2
    go_enter Tryz.func20, Tryz.ntmps20
    go_upto_region 1 with fail
    obtain ⟨hK, hL, hs, hb⟩ := run_two w i d j e a b c f _ rfl
    generalize ((w.alloc (Obj.cells #[Value.int IntKind.i8 i, Value.int IntKind.i64 d, Value.int IntKind.i8 j, Value.int IntKind.i64 e] 26)).alloc (Obj.cells #[Value.int IntKind.i8 a, Value.int IntKind.i64 b, Value.int IntKind.i8 c, Value.int IntKind.i64 f] 26)) = W1 at *
    obtain ⟨k0, k1, k2, k3⟩ := id hK.quad
    obtain ⟨l0, l1, l2, l3⟩ := id hL.quad
    have hX : Below W1.heap.size W1 W1.drew := ⟨rfl, rfl, rfl, Nat.le_refl _, fun _ _ => rfl⟩
    have H1 := Lib.hid (fun X (h : Below W1.heap.size W1 X) => callB9 h1 h)
    clear h1
    refine wp_region_held_drew (S := (fun x => x.cell? ⟨w.heap.size, 0, none⟩ = some (.int .i8 i) ∧ x.cell? ⟨w.heap.size, 1, none⟩ = some (.int .i64 d) ∧ x.cell? ⟨w.heap.size, 2, none⟩ = some (.int .i8 j) ∧ x.cell? ⟨w.heap.size, 3, none⟩ = some (.int .i64 e) ∧ x.cell? ⟨w.heap.size + 1, 0, none⟩ = some (.int .i8 a) ∧ x.cell? ⟨w.heap.size + 1, 1, none⟩ = some (.int .i64 b) ∧ x.cell? ⟨w.heap.size + 1, 2, none⟩ = some (.int .i8 c) ∧ x.cell? ⟨w.heap.size + 1, 3, none⟩ = some (.int .i64 f))) (by kernel_rfl) ?_ (fun hHeld => ?_)
    · (try dsimp only)
      go_keep
    refine wpAnyH_take (i := 0) (oi := ?oi0x) (v := ?v0x) ?hi0x (by kernel_rfl) (by kernel_rfl) (by kernel_rfl) ?hQ0x ?hy0x (by assumption) ?rest0x
    case hi0x => (simp only [List.getElem?_toArray, List.getElem?_cons_zero]; rfl)
    case hQ0x => exact fun _ _ _ h => h
    case hy0x => exact Or.inl ⟨by rfl, by (intro w hSw; (try dsimp only at hSw); go_simp; try with_reducible rfl)⟩
    (try simp only [Act.put, List.setIfInBounds_toArray, List.set_cons_zero, List.set_cons_succ])
    refine wpAnyH_take (i := 1) (oi := ?oi1x) (v := ?v1x) ?hi1x (by kernel_rfl) (by kernel_rfl) (by kernel_rfl) ?hQ1x ?hy1x (by assumption) ?rest1x
    case hi1x => (simp only [List.getElem?_toArray, List.getElem?_cons_succ, List.getElem?_cons_zero]; rfl)
    case hQ1x => exact fun _ _ _ h => h
    case hy1x => exact Or.inl ⟨by rfl, by (intro w hSw; (try dsimp only at hSw); go_simp; try with_reducible rfl)⟩
    (try simp only [Act.put, List.setIfInBounds_toArray, List.set_cons_zero, List.set_cons_succ])
    refine wpAnyH_ready (rs := [2]) (by kernel_rfl) (by simp) ?_
    refine AllReadyH.cons (o := ?oi2x) ?ho2x ?hK2x AllReadyH.nil
    case ho2x => (simp only [List.getElem?_toArray, List.getElem?_cons_succ, List.getElem?_cons_zero]; rfl)
    intro KK hKK
    go_simp
    (go_at_call 12; ((with_reducible refine (H1.out _ hX).mono ?_); rintro z w2 ⟨rfl, hk⟩; (try clear hX); have hX := hk; (try clear m0 m1 m2 m3 n0 n1 n2 n3); obtain ⟨m0, m1, m2, m3⟩ := (hK.below (by omega) hk).quad; obtain ⟨n0, n1, n2, n3⟩ := (hL.below (by omega) hk).quad; clear hk))
    (try go_wp2_with fail)
    refine hKK.out _ _ ?_ (fun hHeld => ?_)
    · (try dsimp only)
      go_keep
    clear hKK KK
    (try simp only [Act.put, List.setIfInBounds_toArray, List.set_cons_zero, List.set_cons_succ])
    refine wpAnyH_take (i := 3) (oi := ?oi3x) (v := ?v3x) ?hi3x (by kernel_rfl) (by kernel_rfl) (by kernel_rfl) ?hQ3x ?hy3x (by assumption) ?rest3x
    case hi3x => (simp only [List.getElem?_toArray, List.getElem?_cons_succ, List.getElem?_cons_zero]; rfl)
    case hQ3x => exact fun _ _ _ h => h
    case hy3x => exact Or.inl ⟨by rfl, by (intro w hSw; (try dsimp only at hSw); go_simp; try with_reducible rfl)⟩
    (try simp only [Act.put, List.setIfInBounds_toArray, List.set_cons_zero, List.set_cons_succ])
    refine wpAnyH_take (i := 4) (oi := ?oi4x) (v := undef) ?hi4x (by kernel_rfl) (by kernel_rfl) (by kernel_rfl) ?hQ4x ?hy4x (by assumption) ?rest4x
    case hi4x => (simp only [List.getElem?_toArray, List.getElem?_cons_succ, List.getElem?_cons_zero]; rfl)
    case hQ4x => exact fun _ _ _ h => h
    case hy4x => exact Or.inr ⟨by rfl, rfl⟩
    (try simp only [Act.put, List.setIfInBounds_toArray, List.set_cons_zero, List.set_cons_succ])
    refine wpAnyH_take (i := 5) (oi := ?oi5x) (v := undef) ?hi5x (by kernel_rfl) (by kernel_rfl) (by kernel_rfl) ?hQ5x ?hy5x (by assumption) ?rest5x
    case hi5x => (simp only [List.getElem?_toArray, List.getElem?_cons_succ, List.getElem?_cons_zero]; rfl)
    case hQ5x => exact fun _ _ _ h => h
    case hy5x => exact Or.inr ⟨by rfl, rfl⟩
    (try simp only [Act.put, List.setIfInBounds_toArray, List.set_cons_zero, List.set_cons_succ])
    refine wpAnyH_take (i := 7) (oi := ?oi7x) (v := undef) ?hi7x (by kernel_rfl) (by kernel_rfl) (by kernel_rfl) ?hQ7x ?hy7x (by assumption) ?rest7x
    case hi7x => (simp only [List.getElem?_toArray, List.getElem?_cons_succ, List.getElem?_cons_zero]; rfl)
    case hQ7x => exact fun _ _ _ h => h
    case hy7x => exact Or.inr ⟨by rfl, rfl⟩
    (try simp only [Act.put, List.setIfInBounds_toArray, List.set_cons_zero, List.set_cons_succ])
    refine wpAnyH_ready (rs := [6]) (by kernel_rfl) (by simp) ?_
    refine AllReadyH.cons (o := ?oi6x) ?ho6x ?hK6x AllReadyH.nil
    case ho6x => (simp only [List.getElem?_toArray, List.getElem?_cons_succ, List.getElem?_cons_zero]; rfl)
    intro KK hKK
    go_simp
    refine hKK.out _ _ (by assumption) (fun _ => ?_)
    clear hKK KK
    (try simp only [Act.put, List.setIfInBounds_toArray, List.set_cons_zero, List.set_cons_succ])
    refine wpAnyH_take (i := 8) (oi := ?oi8x) (v := undef) ?hi8x (by kernel_rfl) (by kernel_rfl) (by kernel_rfl) ?hQ8x ?hy8x (by assumption) ?rest8x
    case hi8x => (simp only [List.getElem?_toArray, List.getElem?_cons_succ, List.getElem?_cons_zero]; rfl)
    case hQ8x => exact fun _ _ _ h => h
    case hy8x => exact Or.inr ⟨by rfl, rfl⟩
    (try simp only [Act.put, List.setIfInBounds_toArray, List.set_cons_zero, List.set_cons_succ])
    refine wpAnyH_take (i := 9) (oi := ?oi9x) (v := ?v9x) ?hi9x (by kernel_rfl) (by kernel_rfl) (by kernel_rfl) ?hQ9x ?hy9x (by assumption) ?rest9x
    case hi9x => (simp only [List.getElem?_toArray, List.getElem?_cons_succ, List.getElem?_cons_zero]; rfl)
    case hQ9x => exact fun _ _ _ h => h
    case hy9x => exact Or.inl ⟨by rfl, by (intro w hSw; (try dsimp only at hSw); go_simp; try with_reducible rfl)⟩
    (try simp only [Act.put, List.setIfInBounds_toArray, List.set_cons_zero, List.set_cons_succ])
    refine wpAnyH_take (i := 10) (oi := ?oi10x) (v := ?v10x) ?hi10x (by kernel_rfl) (by kernel_rfl) (by kernel_rfl) ?hQ10x ?hy10x (by assumption) ?rest10x
    case hi10x => (simp only [List.getElem?_toArray, List.getElem?_cons_succ, List.getElem?_cons_zero]; rfl)
    case hQ10x => exact fun _ _ _ h => h
    case hy10x => exact Or.inl ⟨by rfl, by (intro w hSw; (try dsimp only at hSw); go_simp; try with_reducible rfl)⟩
    (try simp only [Act.put, List.setIfInBounds_toArray, List.set_cons_zero, List.set_cons_succ])
    refine wpAnyH_done (by kernel_rfl) ?_ _
    go_wp2_with fail
    go_ret
    exact ⟨rfl, hb.trans (hX.mono (by omega))⟩
  · go_enter Tryz.func20, Tryz.ntmps20
    go_upto_region 1 with fail
    obtain ⟨hK, hL, hs, hb⟩ := run_two w i d j e a b c f _ rfl
    generalize ((w.alloc (Obj.cells #[Value.int IntKind.i8 i, Value.int IntKind.i64 d, Value.int IntKind.i8 j, Value.int IntKind.i64 e] 26)).alloc (Obj.cells #[Value.int IntKind.i8 a, Value.int IntKind.i64 b, Value.int IntKind.i8 c, Value.int IntKind.i64 f] 26)) = W1 at *
    obtain ⟨k0, k1, k2, k3⟩ := id hK.quad
    obtain ⟨l0, l1, l2, l3⟩ := id hL.quad
    have hX : Below W1.heap.size W1 W1.drew := ⟨rfl, rfl, rfl, Nat.le_refl _, fun _ _ => rfl⟩
    have H1 := Lib.hid (fun X (h : Below W1.heap.size W1 X) => callB9 h1 h)
    have H2 := Lib.hid (fun X (h : Below W1.heap.size W1 X) => callB9 h2 h)
    clear h1 h2
    refine wp_region_held_drew (S := (fun x => x.cell? ⟨w.heap.size, 0, none⟩ = some (.int .i8 i) ∧ x.cell? ⟨w.heap.size, 1, none⟩ = some (.int .i64 d) ∧ x.cell? ⟨w.heap.size, 2, none⟩ = some (.int .i8 j) ∧ x.cell? ⟨w.heap.size, 3, none⟩ = some (.int .i64 e) ∧ x.cell? ⟨w.heap.size + 1, 0, none⟩ = some (.int .i8 a) ∧ x.cell? ⟨w.heap.size + 1, 1, none⟩ = some (.int .i64 b) ∧ x.cell? ⟨w.heap.size + 1, 2, none⟩ = some (.int .i8 c) ∧ x.cell? ⟨w.heap.size + 1, 3, none⟩ = some (.int .i64 f))) (by kernel_rfl) ?_ (fun hHeld => ?_)
    · (try dsimp only)
      go_keep
    refine wpAnyH_take (i := 0) (oi := ?oi0y) (v := ?v0y) ?hi0y (by kernel_rfl) (by kernel_rfl) (by kernel_rfl) ?hQ0y ?hy0y (by assumption) ?rest0y
    case hi0y => (simp only [List.getElem?_toArray, List.getElem?_cons_zero]; rfl)
    case hQ0y => exact fun _ _ _ h => h
    case hy0y => exact Or.inl ⟨by rfl, by (intro w hSw; (try dsimp only at hSw); go_simp; try with_reducible rfl)⟩
    (try simp only [Act.put, List.setIfInBounds_toArray, List.set_cons_zero, List.set_cons_succ])
    refine wpAnyH_take (i := 1) (oi := ?oi1y) (v := ?v1y) ?hi1y (by kernel_rfl) (by kernel_rfl) (by kernel_rfl) ?hQ1y ?hy1y (by assumption) ?rest1y
    case hi1y => (simp only [List.getElem?_toArray, List.getElem?_cons_succ, List.getElem?_cons_zero]; rfl)
    case hQ1y => exact fun _ _ _ h => h
    case hy1y => exact Or.inl ⟨by rfl, by (intro w hSw; (try dsimp only at hSw); go_simp; try with_reducible rfl)⟩
    (try simp only [Act.put, List.setIfInBounds_toArray, List.set_cons_zero, List.set_cons_succ])
    refine wpAnyH_ready (rs := [2]) (by kernel_rfl) (by simp) ?_
    refine AllReadyH.cons (o := ?oi2y) ?ho2y ?hK2y AllReadyH.nil
    case ho2y => (simp only [List.getElem?_toArray, List.getElem?_cons_succ, List.getElem?_cons_zero]; rfl)
    intro KK hKK
    go_simp
    (first
      | (go_at_call 12; ((with_reducible refine (H1.out _ hX).mono ?_); rintro z w2 ⟨rfl, hk⟩; (try clear hX); have hX := hk; (try clear m0 m1 m2 m3 n0 n1 n2 n3); obtain ⟨m0, m1, m2, m3⟩ := (hK.below (by omega) hk).quad; obtain ⟨n0, n1, n2, n3⟩ := (hL.below (by omega) hk).quad; clear hk))
      | (go_at_call 17; ((with_reducible refine (H2.out _ hX).mono ?_); rintro z w2 ⟨rfl, hk⟩; (try clear hX); have hX := hk; (try clear m0 m1 m2 m3 n0 n1 n2 n3); obtain ⟨m0, m1, m2, m3⟩ := (hK.below (by omega) hk).quad; obtain ⟨n0, n1, n2, n3⟩ := (hL.below (by omega) hk).quad; clear hk)))
    (try go_wp2_with fail)
    refine hKK.out _ _ ?_ (fun hHeld => ?_)
    · (try dsimp only)
      go_keep
    clear hKK KK
    (try simp only [Act.put, List.setIfInBounds_toArray, List.set_cons_zero, List.set_cons_succ])
    refine wpAnyH_take (i := 3) (oi := ?oi3y) (v := ?v3y) ?hi3y (by kernel_rfl) (by kernel_rfl) (by kernel_rfl) ?hQ3y ?hy3y (by assumption) ?rest3y
    case hi3y => (simp only [List.getElem?_toArray, List.getElem?_cons_succ, List.getElem?_cons_zero]; rfl)
    case hQ3y => exact fun _ _ _ h => h
    case hy3y => exact Or.inl ⟨by rfl, by (intro w hSw; (try dsimp only at hSw); go_simp; try with_reducible rfl)⟩
    (try simp only [Act.put, List.setIfInBounds_toArray, List.set_cons_zero, List.set_cons_succ])
    refine wpAnyH_take (i := 4) (oi := ?oi4y) (v := ?v4y) ?hi4y (by kernel_rfl) (by kernel_rfl) (by kernel_rfl) ?hQ4y ?hy4y (by assumption) ?rest4y
    case hi4y => (simp only [List.getElem?_toArray, List.getElem?_cons_succ, List.getElem?_cons_zero]; rfl)
    case hQ4y => exact fun _ _ _ h => h
    case hy4y => exact Or.inl ⟨by rfl, by (intro w hSw; (try dsimp only at hSw); go_simp; try with_reducible rfl)⟩
    (try simp only [Act.put, List.setIfInBounds_toArray, List.set_cons_zero, List.set_cons_succ])
    refine wpAnyH_take (i := 5) (oi := ?oi5y) (v := ?v5y) ?hi5y (by kernel_rfl) (by kernel_rfl) (by kernel_rfl) ?hQ5y ?hy5y (by assumption) ?rest5y
    case hi5y => (simp only [List.getElem?_toArray, List.getElem?_cons_succ, List.getElem?_cons_zero]; rfl)
    case hQ5y => exact fun _ _ _ h => h
    case hy5y => exact Or.inl ⟨by rfl, by (intro w hSw; (try dsimp only at hSw); go_simp; try with_reducible rfl)⟩
    (try simp only [Act.put, List.setIfInBounds_toArray, List.set_cons_zero, List.set_cons_succ])
    refine wpAnyH_take (i := 7) (oi := ?oi7y) (v := ?v7y) ?hi7y (by kernel_rfl) (by kernel_rfl) (by kernel_rfl) ?hQ7y ?hy7y (by assumption) ?rest7y
    case hi7y => (simp only [List.getElem?_toArray, List.getElem?_cons_succ, List.getElem?_cons_zero]; rfl)
    case hQ7y => exact fun _ _ _ h => h
    case hy7y => exact Or.inl ⟨by rfl, by (intro w hSw; (try dsimp only at hSw); go_simp; try with_reducible rfl)⟩
    (try simp only [Act.put, List.setIfInBounds_toArray, List.set_cons_zero, List.set_cons_succ])
    refine wpAnyH_ready (rs := [6]) (by kernel_rfl) (by simp) ?_
    refine AllReadyH.cons (o := ?oi6y) ?ho6y ?hK6y AllReadyH.nil
    case ho6y => (simp only [List.getElem?_toArray, List.getElem?_cons_succ, List.getElem?_cons_zero]; rfl)
    intro KK hKK
    go_simp
    (first
      | (go_at_call 12; ((with_reducible refine (H1.out _ hX).mono ?_); rintro z w2 ⟨rfl, hk⟩; (try clear hX); have hX := hk; (try clear m0 m1 m2 m3 n0 n1 n2 n3); obtain ⟨m0, m1, m2, m3⟩ := (hK.below (by omega) hk).quad; obtain ⟨n0, n1, n2, n3⟩ := (hL.below (by omega) hk).quad; clear hk))
      | (go_at_call 17; ((with_reducible refine (H2.out _ hX).mono ?_); rintro z w2 ⟨rfl, hk⟩; (try clear hX); have hX := hk; (try clear m0 m1 m2 m3 n0 n1 n2 n3); obtain ⟨m0, m1, m2, m3⟩ := (hK.below (by omega) hk).quad; obtain ⟨n0, n1, n2, n3⟩ := (hL.below (by omega) hk).quad; clear hk)))
    (try go_wp2_with fail)
    refine hKK.out _ _ ?_ (fun hHeld => ?_)
    · (try dsimp only)
      go_keep
    clear hKK KK
    (try simp only [Act.put, List.setIfInBounds_toArray, List.set_cons_zero, List.set_cons_succ])
    refine wpAnyH_take (i := 8) (oi := ?oi8y) (v := ?v8y) ?hi8y (by kernel_rfl) (by kernel_rfl) (by kernel_rfl) ?hQ8y ?hy8y (by assumption) ?rest8y
    case hi8y => (simp only [List.getElem?_toArray, List.getElem?_cons_succ, List.getElem?_cons_zero]; rfl)
    case hQ8y => exact fun _ _ _ h => h
    case hy8y => exact Or.inl ⟨by rfl, by (intro w hSw; (try dsimp only at hSw); go_simp; try with_reducible rfl)⟩
    (try simp only [Act.put, List.setIfInBounds_toArray, List.set_cons_zero, List.set_cons_succ])
    refine wpAnyH_take (i := 9) (oi := ?oi9y) (v := ?v9y) ?hi9y (by kernel_rfl) (by kernel_rfl) (by kernel_rfl) ?hQ9y ?hy9y (by assumption) ?rest9y
    case hi9y => (simp only [List.getElem?_toArray, List.getElem?_cons_succ, List.getElem?_cons_zero]; rfl)
    case hQ9y => exact fun _ _ _ h => h
    case hy9y => exact Or.inl ⟨by rfl, by (intro w hSw; (try dsimp only at hSw); go_simp; try with_reducible rfl)⟩
    (try simp only [Act.put, List.setIfInBounds_toArray, List.set_cons_zero, List.set_cons_succ])
    refine wpAnyH_take (i := 10) (oi := ?oi10y) (v := ?v10y) ?hi10y (by kernel_rfl) (by kernel_rfl) (by kernel_rfl) ?hQ10y ?hy10y (by assumption) ?rest10y
    case hi10y => (simp only [List.getElem?_toArray, List.getElem?_cons_succ, List.getElem?_cons_zero]; rfl)
    case hQ10y => exact fun _ _ _ h => h
    case hy10y => exact Or.inl ⟨by rfl, by (intro w hSw; (try dsimp only at hSw); go_simp; try with_reducible rfl)⟩
    (try simp only [Act.put, List.setIfInBounds_toArray, List.set_cons_zero, List.set_cons_succ])
    refine wpAnyH_done (by kernel_rfl) ?_ _
    go_wp2_with fail
    go_ret
    exact ⟨rfl, hb.trans (hX.mono (by omega))⟩

/-- An end that is moved. -/
def mvD (i d k : Int) : Int := if i = 0 then fitV (d + k) else d
def mvB (i d k : Int) : Bool := if i = 0 then fitsB (d + k) else true
set_option maxRecDepth 100000 in
theorem endU_any (i d k : Int) (w : World) (hd : I64 d) (hk : I64 k) :
    Calls Tryz.prog 58 #[E2 i d, .int .i64 k] w fun x w' => x = .returned (.tuple #[E2 i (mvD i d k), .bool (mvB i d k)]) ∧ Below w.heap.size w w' := by
  have l1 := lim_int hd.1 hd.2
  have l2 := lim_int hk.1 hk.2
  have l3 : (d + k).natAbs < lim := by have := lim_two; obtain ⟨_, _⟩ := hd; obtain ⟨_, _⟩ := hk; omega
  have H1 := Lib.hid (fun X => of_any d X hd.1 hd.2)
  have H2 := Lib.hid (fun X => of_any k X hk.1 hk.2)
  have HA := Lib.hid (fun v u X hv hu => addN_any v u d k X hv hu l1 l2)
  have HI := Lib.hid (fun v X hv => int_any v (d + k) X hv l3)
  clear l1 l2 l3 hd hk
  by_cases hi : i = 0
  · subst hi
    rw [show mvD 0 d k = fitV (d + k) from if_pos rfl, show mvB 0 d k = fitsB (d + k) from if_pos rfl]
    generalize fitV (d + k) = p at *
    generalize fitsB (d + k) = q at *
    go_enter Tryz.func58, Tryz.ntmps58
    go_upto_region 1 with fail
    obtain ⟨hK, hL, hs, hb⟩ := two_end w 0 d 0 0 _ rfl
    generalize ((w.alloc (Obj.cells #[Value.int IntKind.i8 0, Value.int IntKind.i64 d] 24)).alloc (Obj.cells #[Value.int IntKind.i8 0, Value.int IntKind.i64 0] 24)) = W1 at *
    obtain ⟨f0, f1⟩ := id hK.duo
    go_wp2_with (first
      | (go_at_call 56; ((with_reducible refine (H1.out _).mono ?_); rintro z w2 ⟨u1, rfl, n1, b1⟩))
      | (go_at_call 56; ((with_reducible refine (H2.out _).mono ?_); rintro z w3 ⟨u2, rfl, n2, b2⟩; have m1 := n1.below b2; have b12 := b1.trans (b2.mono b1.size)))
      | (go_at_call 55; ((with_reducible refine (HA.out _ _ _ m1 n2).mono ?_); rintro z w4 ⟨u3, rfl, n3, b3⟩; have b13 := b12.trans (b3.mono b12.size)))
      | (go_at_call 54; ((with_reducible refine (HI.out _ _ n3).mono ?_); rintro z w5 ⟨rfl, b4⟩; have b14 := b13.trans (b4.mono b13.size); have HM := Lib.hid (hL.below (by omega) b14); obtain ⟨z0, z1⟩ := HM.out.duo; have y0 := HM.out.frozen 0; have y1 := HM.out.frozen 1; have HB := Lib.hid (hb.trans (b14.mono (by omega))); clear b1 b2 b12 b3 b13 b4 b14 n1 n2 m1 n3)))
    exact bodyPost_ret (res_end2 rfl rfl rfl (HM.out.store 0 p).duo) rfl ⟨rfl, set2_below HB.out (by omega) 0 p⟩
  · have hi2 : (i != 0) = true := by simp [hi]
    rw [show mvD i d k = d from if_neg hi, show mvB i d k = true from if_neg hi]
    clear hi H1 H2 HA HI
    go_enter Tryz.func58, Tryz.ntmps58
    go_upto_region 1 with fail
    obtain ⟨hK, hL, hs, hb⟩ := two_end w i d 0 0 _ rfl
    generalize ((w.alloc (Obj.cells #[Value.int IntKind.i8 i, Value.int IntKind.i64 d] 24)).alloc (Obj.cells #[Value.int IntKind.i8 0, Value.int IntKind.i64 0] 24)) = W1 at *
    obtain ⟨f0, f1⟩ := id hK.duo
    have HM := Lib.hid hL
    obtain ⟨z0, z1⟩ := HM.out.duo
    have y0 := HM.out.frozen 0
    have y1 := HM.out.frozen 1
    have HB := Lib.hid hb
    clear hb hL
    go_wp2_with fail
    exact bodyPost_ret (res_end2 rfl rfl rfl (HM.out.store i d).duo) rfl ⟨rfl, set2_below HB.out (by omega) i d⟩
end Go.Proofs.YtmbaohjekeiphaaGreatDoor
/- The reference of runs (circaref09): Shift, Len, Text. -/
namespace Go.Proofs.YtmbaohjekeiphaaGreatDoor
open Go.RowKit

theorem fitsB_iff (z : Int) : fitsB z = decide (I64 z) := rfl
theorem mvB_iff (i d k : Int) : mvB i d k = true ↔ (i = 0 → I64 (d + k)) := by
  unfold mvB
  by_cases h : i = 0
  · rw [if_pos h, fitsB_iff, decide_eq_true_eq]; exact ⟨fun q _ => q, fun q => q h⟩
  · rw [if_neg h]; exact ⟨fun _ q => absurd q h, fun _ => rfl⟩
theorem mvD_fit {i d k : Int} (h : mvB i d k = true) : mvD i d k = mvV i d k := by
  unfold mvD mvV
  by_cases hi : i = 0
  · have := (mvB_iff i d k).1 h hi
    rw [if_pos hi, if_pos hi]; exact fitV_in this.1 this.2
  · rw [if_neg hi, if_neg hi]
theorem ruS_cases (i d j e k : Int) : (mvB i d k = true ∧ mvB j e k = true ∧ ruSE ⟨i, d, j, e⟩ k = 0 ∧ ruS ⟨i, d, j, e⟩ k = ⟨i, mvD i d k, j, mvD j e k⟩) ∨ (mvB i d k = false ∧ ruSE ⟨i, d, j, e⟩ k = 15 ∧ ruS ⟨i, d, j, e⟩ k = ru0) ∨
    (mvB i d k = true ∧ mvB j e k = false ∧ ruSE ⟨i, d, j, e⟩ k = 15 ∧ ruS ⟨i, d, j, e⟩ k = ru0) := by
  by_cases h1 : mvB i d k = true
  · by_cases h2 : mvB j e k = true
    · have q : ruSE ⟨i, d, j, e⟩ k = 0 := if_pos ⟨(mvB_iff i d k).1 h1, (mvB_iff j e k).1 h2⟩
      refine .inl ⟨h1, h2, q, ?_⟩
      unfold ruS
      rw [if_pos q, mvD_fit h1, mvD_fit h2]
    · have q : ruSE ⟨i, d, j, e⟩ k = 15 := if_neg (fun h => h2 ((mvB_iff j e k).2 h.2))
      exact .inr (.inr ⟨h1, by simpa using h2, q, if_neg (by rw [q]; decide)⟩)
  · have q : ruSE ⟨i, d, j, e⟩ k = 15 := if_neg (fun h => h1 ((mvB_iff i d k).2 h.1))
    exact .inr (.inl ⟨by simpa using h1, q, if_neg (by rw [q]; decide)⟩)
set_option maxRecDepth 100000 in
theorem shiU_any (i d j e k : Int) (w : World) (hd : I64 d) (he : I64 e) (hk : I64 k) :
    Calls Tryz.prog 30 #[U4 i d j e, .int .i64 k] w fun x w' => x = .returned (.tuple #[V4 (ruS ⟨i, d, j, e⟩ k), .int .i64 (ruSE ⟨i, d, j, e⟩ k)]) ∧ Below w.heap.size w w' := by
  have h1 := fun X => endU_any i d k X hd hk
  have h2 := fun X => endU_any j e k X he hk
  clear hd he hk
  rcases ruS_cases i d j e k with ⟨b1, b2, q1, q2⟩ | ⟨b1, q1, q2⟩ | ⟨b1, b2, q1, q2⟩
  all_goals
    rw [q1, q2]
    rw [b1] at h1
    (try rw [b2] at h2)
    clear q1 q2 b1
    (try clear b2)
    generalize mvD i d k = p at *
    generalize mvD j e k = q at *
    (try generalize mvB j e k = b2 at *)
  · go_enter Tryz.func30, Tryz.ntmps30
    go_upto_region 1 with fail
    obtain ⟨hK, hZ, hs, hb⟩ := run_two w i d j e 0 0 0 0 _ rfl
    generalize ((w.alloc (Obj.cells #[Value.int IntKind.i8 i, Value.int IntKind.i64 d, Value.int IntKind.i8 j, Value.int IntKind.i64 e] 26)).alloc (Obj.cells #[Value.int IntKind.i8 0, Value.int IntKind.i64 0, Value.int IntKind.i8 0, Value.int IntKind.i64 0] 26)) = W1 at *
    have hlt : w.heap.size + 1 < W1.heap.size := by omega
    clear hs
    obtain ⟨k0, k1, k2, k3⟩ := id hK.quad
    have H1 := Lib.hid (fun X (h : Below W1.heap.size W1 X) => callB9 h1 h)
    clear h1
    go_upto_region 2 with (go_at_call 58; ((with_reducible refine (H1.out _ (Below.refl _ _)).mono ?_); rintro z w2 ⟨rfl, hk⟩))
    obtain ⟨g6, g7, g8⟩ := end_new w2 i p _ rfl
    have hX := hk.trans (g8.mono hk.size)
    generalize (w2.alloc (Obj.cells #[Value.int IntKind.i8 i, Value.int IntKind.i64 p] 24)) = W3 at *
    have hg : W1.heap.size ≤ w2.heap.size := hk.size
    generalize w2.heap.size = g at *
    clear hk g8 H1 k0 k1 k2 k3
    obtain ⟨k0, k1, k2, k3⟩ := (hK.below (by omega) hX).quad
    have H2 := Lib.hid (fun X (h : Below W3.heap.size W3 X) => callB9 h2 h)
    clear h2
    go_upto_region 3 with (go_at_call 58; ((with_reducible refine (H2.out _ (Below.refl _ _)).mono ?_); rintro z w4 ⟨rfl, hk⟩))
    obtain ⟨j6, j7, j8⟩ := end_new w4 j q _ rfl
    have hY := hk.trans (j8.mono hk.size)
    generalize (w4.alloc (Obj.cells #[Value.int IntKind.i8 j, Value.int IntKind.i64 q] 24)) = W5 at *
    generalize w4.heap.size = h at *
    have g9 := g6.below g7 hY
    have hB := hX.trans (hY.mono (by omega))
    have HZ := Lib.hid (hZ.below hlt hB)
    have HB := Lib.hid (hb.trans (hB.mono (by omega)))
    obtain ⟨o0, o1⟩ := g9.duo
    obtain ⟨p0, p1⟩ := j6.duo
    obtain ⟨z0, z1, z2, z3⟩ := HZ.out.quad
    have y0 := HZ.out.frozen 0
    have y1 := HZ.out.frozen 1
    have y2 := HZ.out.frozen 2
    have y3 := HZ.out.frozen 3
    clear hk j8 j6 j7 g6 g7 g9 hX hY hB hb hK hZ k0 k1 k2 k3 H2
    go_wp2_with fail
    exact bodyPost_ret (res_run2 rfl rfl rfl (HZ.out.store i p j q).quad) rfl ⟨rfl, set4_below HB.out (by omega) i p j q⟩
  · go_enter Tryz.func30, Tryz.ntmps30
    go_upto_region 1 with fail
    obtain ⟨hK, hZ, hs, hb⟩ := run_two w i d j e 0 0 0 0 _ rfl
    generalize ((w.alloc (Obj.cells #[Value.int IntKind.i8 i, Value.int IntKind.i64 d, Value.int IntKind.i8 j, Value.int IntKind.i64 e] 26)).alloc (Obj.cells #[Value.int IntKind.i8 0, Value.int IntKind.i64 0, Value.int IntKind.i8 0, Value.int IntKind.i64 0] 26)) = W1 at *
    have hlt : w.heap.size + 1 < W1.heap.size := by omega
    clear hs
    obtain ⟨k0, k1, k2, k3⟩ := id hK.quad
    have H1 := Lib.hid (fun X (h : Below W1.heap.size W1 X) => callB9 h1 h)
    clear h1
    go_upto_region 2 with (go_at_call 58; ((with_reducible refine (H1.out _ (Below.refl _ _)).mono ?_); rintro z w2 ⟨rfl, hk⟩))
    obtain ⟨g6, g7, g8⟩ := end_new w2 i p _ rfl
    have hX := hk.trans (g8.mono hk.size)
    generalize (w2.alloc (Obj.cells #[Value.int IntKind.i8 i, Value.int IntKind.i64 p] 24)) = W3 at *
    have hg : W1.heap.size ≤ w2.heap.size := hk.size
    generalize w2.heap.size = g at *
    clear hk g8 H1 k0 k1 k2 k3
    obtain ⟨k0, k1, k2, k3⟩ := (hK.below (by omega) hX).quad
    have H2 := Lib.hid (fun X (h : Below W3.heap.size W3 X) => callB9 h2 h)
    clear h2
    go_upto_region 3 with (go_at_call 58; ((with_reducible refine (H2.out _ (Below.refl _ _)).mono ?_); rintro z w4 ⟨rfl, hk⟩))
    obtain ⟨j6, j7, j8⟩ := end_new w4 j q _ rfl
    have hY := hk.trans (j8.mono hk.size)
    generalize (w4.alloc (Obj.cells #[Value.int IntKind.i8 j, Value.int IntKind.i64 q] 24)) = W5 at *
    generalize w4.heap.size = h at *
    have g9 := g6.below g7 hY
    have hB := hX.trans (hY.mono (by omega))
    have HZ := Lib.hid (hZ.below hlt hB)
    have HB := Lib.hid (hb.trans (hB.mono (by omega)))
    obtain ⟨o0, o1⟩ := g9.duo
    obtain ⟨p0, p1⟩ := j6.duo
    obtain ⟨z0, z1, z2, z3⟩ := HZ.out.quad
    have y0 := HZ.out.frozen 0
    have y1 := HZ.out.frozen 1
    have y2 := HZ.out.frozen 2
    have y3 := HZ.out.frozen 3
    clear hk j8 j6 j7 g6 g7 g9 hX hY hB hb hK hZ k0 k1 k2 k3 H2
    go_wp2_with fail
    exact bodyPost_ret (res_run2 rfl rfl rfl (HZ.out.store 0 0 0 0).quad) rfl ⟨rfl, set4_below HB.out (by omega) 0 0 0 0⟩
  · go_enter Tryz.func30, Tryz.ntmps30
    go_upto_region 1 with fail
    obtain ⟨hK, hZ, hs, hb⟩ := run_two w i d j e 0 0 0 0 _ rfl
    generalize ((w.alloc (Obj.cells #[Value.int IntKind.i8 i, Value.int IntKind.i64 d, Value.int IntKind.i8 j, Value.int IntKind.i64 e] 26)).alloc (Obj.cells #[Value.int IntKind.i8 0, Value.int IntKind.i64 0, Value.int IntKind.i8 0, Value.int IntKind.i64 0] 26)) = W1 at *
    have hlt : w.heap.size + 1 < W1.heap.size := by omega
    clear hs
    obtain ⟨k0, k1, k2, k3⟩ := id hK.quad
    have H1 := Lib.hid (fun X (h : Below W1.heap.size W1 X) => callB9 h1 h)
    clear h1
    go_upto_region 2 with (go_at_call 58; ((with_reducible refine (H1.out _ (Below.refl _ _)).mono ?_); rintro z w2 ⟨rfl, hk⟩))
    obtain ⟨g6, g7, g8⟩ := end_new w2 i p _ rfl
    have hX := hk.trans (g8.mono hk.size)
    generalize (w2.alloc (Obj.cells #[Value.int IntKind.i8 i, Value.int IntKind.i64 p] 24)) = W3 at *
    have hg : W1.heap.size ≤ w2.heap.size := hk.size
    generalize w2.heap.size = g at *
    clear hk g8 H1 k0 k1 k2 k3
    obtain ⟨k0, k1, k2, k3⟩ := (hK.below (by omega) hX).quad
    have H2 := Lib.hid (fun X (h : Below W3.heap.size W3 X) => callB9 h2 h)
    clear h2
    go_upto_region 3 with (go_at_call 58; ((with_reducible refine (H2.out _ (Below.refl _ _)).mono ?_); rintro z w4 ⟨rfl, hk⟩))
    obtain ⟨j6, j7, j8⟩ := end_new w4 j q _ rfl
    have hY := hk.trans (j8.mono hk.size)
    generalize (w4.alloc (Obj.cells #[Value.int IntKind.i8 j, Value.int IntKind.i64 q] 24)) = W5 at *
    generalize w4.heap.size = h at *
    have g9 := g6.below g7 hY
    have hB := hX.trans (hY.mono (by omega))
    have HZ := Lib.hid (hZ.below hlt hB)
    have HB := Lib.hid (hb.trans (hB.mono (by omega)))
    obtain ⟨o0, o1⟩ := g9.duo
    obtain ⟨p0, p1⟩ := j6.duo
    obtain ⟨z0, z1, z2, z3⟩ := HZ.out.quad
    have y0 := HZ.out.frozen 0
    have y1 := HZ.out.frozen 1
    have y2 := HZ.out.frozen 2
    have y3 := HZ.out.frozen 3
    clear hk j8 j6 j7 g6 g7 g9 hX hY hB hb hK hZ k0 k1 k2 k3 H2
    go_wp2_with fail
    exact bodyPost_ret (res_run2 rfl rfl rfl (HZ.out.store 0 0 0 0).quad) rfl ⟨rfl, set4_below HB.out (by omega) 0 0 0 0⟩

theorem ruL_cases (i d j e : Int) : ((i != 0) = true ∧ ruLE ⟨i, d, j, e⟩ = 16 ∧ ruL ⟨i, d, j, e⟩ = 0) ∨ ((i != 0) = false ∧ (j != 0) = true ∧ ruLE ⟨i, d, j, e⟩ = 16 ∧ ruL ⟨i, d, j, e⟩ = 0) ∨
    ((i != 0) = false ∧ (j != 0) = false ∧ fitsB (e + -d + 1) = true ∧ ruLE ⟨i, d, j, e⟩ = 0 ∧ ruL ⟨i, d, j, e⟩ = fitV (e + -d + 1)) ∨ ((i != 0) = false ∧ (j != 0) = false ∧ fitsB (e + -d + 1) = false ∧ ruLE ⟨i, d, j, e⟩ = 15 ∧ ruL ⟨i, d, j, e⟩ = 0) := by
  have e1 : e - d + 1 = e + -d + 1 := by omega
  unfold ruL ruLE
  rw [fitsB_iff]
  dsimp only
  rw [e1]
  by_cases h1 : i = 0
  · by_cases h2 : j = 0
    · by_cases h3 : I64 (e + -d + 1)
      · simp [h1, h2, h3, fitV_in h3.1 h3.2]
      · simp [h1, h2, h3]
    · simp [h1, h2]
  · simp [h1]
set_option maxRecDepth 100000 in
set_option maxHeartbeats 1000000 in
theorem lenU_any (i d j e : Int) (w : World) (hd : I64 d) (he : I64 e) :
    Calls Tryz.prog 29 #[U4 i d j e] w fun x w' => x = .returned (.tuple #[.int .i64 (ruL ⟨i, d, j, e⟩), .int .i64 (ruLE ⟨i, d, j, e⟩)]) ∧ Below w.heap.size w w' := by
  have l1 := lim_int hd.1 hd.2
  have l2 := lim_int he.1 he.2
  have l3 : (-d).natAbs < lim := by omega
  have l4 : (e + -d).natAbs < lim := by have := lim_two; obtain ⟨_, _⟩ := hd; obtain ⟨_, _⟩ := he; omega
  have l5 : (e + -d + 1).natAbs < lim := by have := lim_two; obtain ⟨_, _⟩ := hd; obtain ⟨_, _⟩ := he; omega
  have l6 : (1 : Int).natAbs < lim := by have := lim_two; omega
  have H1 := Lib.hid (fun X => of_any e X he.1 he.2)
  have H2 := Lib.hid (fun X => of_any d X hd.1 hd.2)
  have H3 := Lib.hid (fun X => of_any 1 X (by decide) (by decide))
  have HN := Lib.hid (fun v X hv => neg_any v d X hv l1)
  have HA := Lib.hid (fun v u X hv hu => addN_any v u e (-d) X hv hu l2 l3)
  have HA2 := Lib.hid (fun v u X hv hu => addN_any v u (e + -d) 1 X hv hu l4 l6)
  have HI := Lib.hid (fun v X hv => int_any v (e + -d + 1) X hv l5)
  clear l1 l2 l3 l4 l5 l6 hd he
  rcases ruL_cases i d j e with ⟨a1, q1, q2⟩ | ⟨a1, a2, q1, q2⟩ | ⟨a1, a2, a3, q1, q2⟩ | ⟨a1, a2, a3, q1, q2⟩
  all_goals rw [q1, q2]; clear q1 q2
  · clear H1 H2 H3 HN HA HA2 HI
    go_enter Tryz.func29, Tryz.ntmps29
    go_upto_region 1 with fail
    obtain ⟨hK, hs, hb⟩ := run_new w i d j e _ rfl
    generalize (w.alloc (Obj.cells #[Value.int IntKind.i8 i, Value.int IntKind.i64 d, Value.int IntKind.i8 j, Value.int IntKind.i64 e] 26)) = W1 at *
    obtain ⟨k0, k1, k2, k3⟩ := id hK.quad
    go_wp2_with fail
    go_ret2
    exact ⟨rfl, hb⟩
  · clear H1 H2 H3 HN HA HA2 HI
    go_enter Tryz.func29, Tryz.ntmps29
    go_upto_region 1 with fail
    obtain ⟨hK, hs, hb⟩ := run_new w i d j e _ rfl
    generalize (w.alloc (Obj.cells #[Value.int IntKind.i8 i, Value.int IntKind.i64 d, Value.int IntKind.i8 j, Value.int IntKind.i64 e] 26)) = W1 at *
    obtain ⟨k0, k1, k2, k3⟩ := id hK.quad
    go_wp2_with fail
    go_ret2
    exact ⟨rfl, hb⟩
  · rw [a3] at HI
    generalize fitV (e + -d + 1) = r at *
    go_enter Tryz.func29, Tryz.ntmps29
    go_upto_region 1 with fail
    obtain ⟨hK, hs, hb⟩ := run_new w i d j e _ rfl
    generalize (w.alloc (Obj.cells #[Value.int IntKind.i8 i, Value.int IntKind.i64 d, Value.int IntKind.i8 j, Value.int IntKind.i64 e] 26)) = W1 at *
    obtain ⟨k0, k1, k2, k3⟩ := id hK.quad
    go_upto_region 3 with fail
    have bb : Below W1.heap.size W1 W1.drew := ⟨rfl, rfl, rfl, Nat.le_refl _, fun _ _ => rfl⟩
    go_region_held3 (fun x => x.cell? ⟨w.heap.size, 0, none⟩ = some (.int .i8 i) ∧ x.cell? ⟨w.heap.size, 1, none⟩ = some (.int .i64 d) ∧ x.cell? ⟨w.heap.size, 2, none⟩ = some (.int .i8 j) ∧ x.cell? ⟨w.heap.size, 3, none⟩ = some (.int .i64 e)) (go_keep)
      (first
        | (go_at_call 56; ((with_reducible refine (H1.out _).mono ?_); rintro z w2 ⟨u1, rfl, n1, b1⟩; have bb := bb.trans (b1.mono bb.size); (try clear m0 m1 m2 m3); obtain ⟨m0, m1, m2, m3⟩ := (hK.below (by omega) bb).quad))
        | (go_at_call 56; ((with_reducible refine (H2.out _).mono ?_); rintro z w3 ⟨u2, rfl, n2, b2⟩; have n1 := n1.below b2; have bb := bb.trans (b2.mono bb.size); (try clear m0 m1 m2 m3); obtain ⟨m0, m1, m2, m3⟩ := (hK.below (by omega) bb).quad))
        | (go_at_call 57; ((with_reducible refine (HN.out _ _ n2).mono ?_); rintro z w4 ⟨u3, rfl, n3, b3⟩; have n1 := n1.below b3; have bb := bb.trans (b3.mono bb.size); (try clear m0 m1 m2 m3); obtain ⟨m0, m1, m2, m3⟩ := (hK.below (by omega) bb).quad))
        | (go_at_call 55; ((with_reducible refine (HA.out _ _ _ n1 n3).mono ?_); rintro z w5 ⟨u4, rfl, n4, b4⟩; have bb := bb.trans (b4.mono bb.size); (try clear m0 m1 m2 m3); obtain ⟨m0, m1, m2, m3⟩ := (hK.below (by omega) bb).quad))
        | (go_at_call 56; ((with_reducible refine (H3.out _).mono ?_); rintro z w6 ⟨u5, rfl, n5, b5⟩; have n4 := n4.below b5; have bb := bb.trans (b5.mono bb.size); (try clear m0 m1 m2 m3); obtain ⟨m0, m1, m2, m3⟩ := (hK.below (by omega) bb).quad))
        | (go_at_call 55; ((with_reducible refine (HA2.out _ _ _ n4 n5).mono ?_); rintro z w7 ⟨u6, rfl, n6, b6⟩; have bb := bb.trans (b6.mono bb.size); (try clear m0 m1 m2 m3); obtain ⟨m0, m1, m2, m3⟩ := (hK.below (by omega) bb).quad))
        | (go_at_call 54; ((with_reducible refine (HI.out _ _ n6).mono ?_); rintro z w8 ⟨rfl, b7⟩; have bb := bb.trans (b7.mono bb.size); (try clear m0 m1 m2 m3); obtain ⟨m0, m1, m2, m3⟩ := (hK.below (by omega) bb).quad)))
    all_goals
      go_wp2_with fail
      go_ret2
      exact ⟨rfl, hb.trans (bb.mono (by omega))⟩
  · rw [a3] at HI
    generalize fitV (e + -d + 1) = r at *
    go_enter Tryz.func29, Tryz.ntmps29
    go_upto_region 1 with fail
    obtain ⟨hK, hs, hb⟩ := run_new w i d j e _ rfl
    generalize (w.alloc (Obj.cells #[Value.int IntKind.i8 i, Value.int IntKind.i64 d, Value.int IntKind.i8 j, Value.int IntKind.i64 e] 26)) = W1 at *
    obtain ⟨k0, k1, k2, k3⟩ := id hK.quad
    go_upto_region 3 with fail
    have bb : Below W1.heap.size W1 W1.drew := ⟨rfl, rfl, rfl, Nat.le_refl _, fun _ _ => rfl⟩
    go_region_held3 (fun x => x.cell? ⟨w.heap.size, 0, none⟩ = some (.int .i8 i) ∧ x.cell? ⟨w.heap.size, 1, none⟩ = some (.int .i64 d) ∧ x.cell? ⟨w.heap.size, 2, none⟩ = some (.int .i8 j) ∧ x.cell? ⟨w.heap.size, 3, none⟩ = some (.int .i64 e)) (go_keep)
      (first
        | (go_at_call 56; ((with_reducible refine (H1.out _).mono ?_); rintro z w2 ⟨u1, rfl, n1, b1⟩; have bb := bb.trans (b1.mono bb.size); (try clear m0 m1 m2 m3); obtain ⟨m0, m1, m2, m3⟩ := (hK.below (by omega) bb).quad))
        | (go_at_call 56; ((with_reducible refine (H2.out _).mono ?_); rintro z w3 ⟨u2, rfl, n2, b2⟩; have n1 := n1.below b2; have bb := bb.trans (b2.mono bb.size); (try clear m0 m1 m2 m3); obtain ⟨m0, m1, m2, m3⟩ := (hK.below (by omega) bb).quad))
        | (go_at_call 57; ((with_reducible refine (HN.out _ _ n2).mono ?_); rintro z w4 ⟨u3, rfl, n3, b3⟩; have n1 := n1.below b3; have bb := bb.trans (b3.mono bb.size); (try clear m0 m1 m2 m3); obtain ⟨m0, m1, m2, m3⟩ := (hK.below (by omega) bb).quad))
        | (go_at_call 55; ((with_reducible refine (HA.out _ _ _ n1 n3).mono ?_); rintro z w5 ⟨u4, rfl, n4, b4⟩; have bb := bb.trans (b4.mono bb.size); (try clear m0 m1 m2 m3); obtain ⟨m0, m1, m2, m3⟩ := (hK.below (by omega) bb).quad))
        | (go_at_call 56; ((with_reducible refine (H3.out _).mono ?_); rintro z w6 ⟨u5, rfl, n5, b5⟩; have n4 := n4.below b5; have bb := bb.trans (b5.mono bb.size); (try clear m0 m1 m2 m3); obtain ⟨m0, m1, m2, m3⟩ := (hK.below (by omega) bb).quad))
        | (go_at_call 55; ((with_reducible refine (HA2.out _ _ _ n4 n5).mono ?_); rintro z w7 ⟨u6, rfl, n6, b6⟩; have bb := bb.trans (b6.mono bb.size); (try clear m0 m1 m2 m3); obtain ⟨m0, m1, m2, m3⟩ := (hK.below (by omega) bb).quad))
        | (go_at_call 54; ((with_reducible refine (HI.out _ _ n6).mono ?_); rintro z w8 ⟨rfl, b7⟩; have bb := bb.trans (b7.mono bb.size); (try clear m0 m1 m2 m3); obtain ⟨m0, m1, m2, m3⟩ := (hK.below (by omega) bb).quad)))
    all_goals
      go_wp2_with fail
      go_ret2
      exact ⟨rfl, hb.trans (bb.mono (by omega))⟩

theorem enS_size (i d : Int) (hd : I64 d) : (enS i d).size ≤ 20 := by
  show (enL i d).toArray.size ≤ 20
  unfold enL
  split
  · show 4 ≤ 20; decide
  · split
    · show 3 ≤ 20; decide
    · exact itoa_len d hd.1 hd.2
/-- The text of a right run. -/
def ruT (r : Ru) : ByteArray := (enS r.i r.d ++ ⟨#[46, 46]⟩) ++ enS r.j r.e
set_option maxRecDepth 100000 in
theorem texU_any (i d j e : Int) (w : World) (hd : I64 d) (he : I64 e) :
    Calls Tryz.prog 64 #[U4 i d j e] w fun x w' => x = .returned (.string (ruT ⟨i, d, j, e⟩)) ∧ Below w.heap.size w w' := by
  have h1 := fun X => texE_any i d X hd
  have h2 := fun X => texE_any j e X he
  have z1 := enS_size i d hd
  have z2 := enS_size j e he
  unfold ruT
  dsimp only
  clear hd he
  generalize enS i d = s at *
  generalize enS j e = t at *
  have y1 : ¬ 9223372036854775807 < s.size + 2 := by omega
  have y2 : ¬ 9223372036854775807 < s.size + 2 + t.size := by omega
  have y3 : ¬ 9223372036854775807 < s.size + (⟨#[46, 46]⟩ : ByteArray).size := by show ¬ 9223372036854775807 < s.size + 2; omega
  have y4 : ¬ 9223372036854775807 < (s ++ ⟨#[46, 46]⟩ : ByteArray).size + t.size := by rw [ByteArray.size_append]; show ¬ 9223372036854775807 < s.size + 2 + t.size; omega
  clear z1 z2
  go_enter Tryz.func64, Tryz.ntmps64
  go_upto_region 1 with fail
  obtain ⟨hK, hs, hb⟩ := run_new w i d j e _ rfl
  generalize (w.alloc (Obj.cells #[Value.int IntKind.i8 i, Value.int IntKind.i64 d, Value.int IntKind.i8 j, Value.int IntKind.i64 e] 26)) = W1 at *
  obtain ⟨k0, k1, k2, k3⟩ := id hK.quad
  have hX : Below W1.heap.size W1 W1.drew := ⟨rfl, rfl, rfl, Nat.le_refl _, fun _ _ => rfl⟩
  have H1 := Lib.hid (fun X (h : Below W1.heap.size W1 X) => callB9 h1 h)
  have H2 := Lib.hid (fun X (h : Below W1.heap.size W1 X) => callB9 h2 h)
  clear h1 h2
  go_region_held3 (fun x => x.cell? ⟨w.heap.size, 0, none⟩ = some (.int .i8 i) ∧ x.cell? ⟨w.heap.size, 1, none⟩ = some (.int .i64 d) ∧ x.cell? ⟨w.heap.size, 2, none⟩ = some (.int .i8 j) ∧ x.cell? ⟨w.heap.size, 3, none⟩ = some (.int .i64 e)) (go_keep)
    (first
      | (go_at_call 85; ((with_reducible refine (H1.out _ hX).mono ?_); rintro z w2 ⟨rfl, hk⟩; (try clear hX); have hX := hk; (try clear m0 m1 m2 m3); obtain ⟨m0, m1, m2, m3⟩ := (hK.below (by omega) hk).quad; clear hk))
      | (go_at_call 85; ((with_reducible refine (H2.out _ hX).mono ?_); rintro z w2 ⟨rfl, hk⟩; (try clear hX); have hX := hk; (try clear m0 m1 m2 m3); obtain ⟨m0, m1, m2, m3⟩ := (hK.below (by omega) hk).quad; clear hk)))
  all_goals
    go_wp2_with fail
    go_ret
    exact ⟨rfl, hb.trans (hX.mono (by omega))⟩
end Go.Proofs.YtmbaohjekeiphaaGreatDoor
/- The reference of runs (circaref09): Parse. -/
namespace Go.Proofs.YtmbaohjekeiphaaGreatDoor
open Go.RowKit

/-- The place of the first two points that stand side by side. -/
def dotAt : List UInt8 → Nat
  | [] => 0
  | [_] => 0
  | a :: b :: r => if a = 46 ∧ b = 46 then 0 else dotAt (b :: r) + 1
def dotS (s : ByteArray) : Nat := dotAt s.data.toList
def loS (s : ByteArray) : ByteArray := s.extract 0 (dotS s)
def hiS (s : ByteArray) : ByteArray := s.extract (dotS s + 2) s.size
def prRun (s : ByteArray) : Ru := ⟨prI (loS s), prD (loS s), prI (hiS s), prD (hiS s)⟩
/-- What a text is the run of: the error, and the run. -/
def prRE (s : ByteArray) : Int := if dotS s + 1 < s.size then (if prE (loS s) = 5 ∨ prE (hiS s) = 5 then 5 else if prE (loS s) ≠ 0 ∨ prE (hiS s) ≠ 0 then 15 else ruE (prRun s)) else 5
def prR (s : ByteArray) : Ru := if prRE s = 0 then prRun s else ru0
theorem prE_three (s : ByteArray) : prE s = 0 ∨ prE s = 5 ∨ prE s = 15 := by
  rcases prE_cases s with ⟨-, q⟩ | ⟨-, -, q⟩ | ⟨-, -, -, q⟩ | ⟨-, -, -, -, q⟩ | ⟨-, -, -, -, q⟩
  · exact .inl q.2.2
  · exact .inl q.2.2
  · exact .inr (.inl q.2.2)
  · exact .inr (.inr q.2.2)
  · exact .inl q.2.2
theorem prR_cases (s : ByteArray) : (¬ dotS s + 1 < s.size ∧ prRE s = 5 ∧ prR s = ru0) ∨ (dotS s + 1 < s.size ∧ prE (loS s) = 5 ∧ prRE s = 5 ∧ prR s = ru0) ∨ (dotS s + 1 < s.size ∧ (prE (loS s) == 5) = false ∧ prE (hiS s) = 5 ∧ prRE s = 5 ∧ prR s = ru0) ∨
    (dotS s + 1 < s.size ∧ prE (loS s) = 15 ∧ (prE (hiS s) == 5) = false ∧ prRE s = 15 ∧ prR s = ru0) ∨ (dotS s + 1 < s.size ∧ prE (loS s) = 0 ∧ prE (hiS s) = 15 ∧ prRE s = 15 ∧ prR s = ru0) ∨
    (dotS s + 1 < s.size ∧ prE (loS s) = 0 ∧ prE (hiS s) = 0 ∧ (ruE (prRun s) != 0) = true ∧ prRE s = ruE (prRun s) ∧ prR s = ru0) ∨ (dotS s + 1 < s.size ∧ prE (loS s) = 0 ∧ prE (hiS s) = 0 ∧ ruE (prRun s) = 0 ∧ prRE s = 0 ∧ prR s = prRun s) := by
  unfold prR
  unfold prRE
  by_cases h : dotS s + 1 < s.size
  · rcases prE_three (loS s) with h1 | h1 | h1 <;> rcases prE_three (hiS s) with h2 | h2 | h2
    · by_cases h3 : ruE (prRun s) = 0
      · simp [h, h1, h2, h3]
      · simp [h, h1, h2, h3]
    all_goals simp [h, h1, h2]
  · simp [h]
theorem dot_step {l : List UInt8} {k : Nat} (h : k + 1 < l.length) (hn : ¬ (l[k] = 46 ∧ l[k + 1] = 46)) (hd : dotAt l = k + dotAt (l.drop k)) : dotAt l = (k + 1) + dotAt (l.drop (k + 1)) := by
  rw [hd, List.drop_eq_getElem_cons (by omega : k < l.length), List.drop_eq_getElem_cons h]
  show k + (if l[k] = 46 ∧ l[k + 1] = 46 then 0 else dotAt (l[k + 1] :: l.drop (k + 1 + 1)) + 1) = _
  rw [if_neg hn]
  omega
theorem dot_here {l : List UInt8} {k : Nat} (h : k + 1 < l.length) (hn : l[k] = 46 ∧ l[k + 1] = 46) (hd : dotAt l = k + dotAt (l.drop k)) : dotAt l = k := by
  rw [hd, List.drop_eq_getElem_cons (by omega : k < l.length), List.drop_eq_getElem_cons h]
  show k + (if l[k] = 46 ∧ l[k + 1] = 46 then 0 else dotAt (l[k + 1] :: l.drop (k + 1 + 1)) + 1) = _
  rw [if_pos hn]
  rfl
theorem dot_end {l : List UInt8} {k : Nat} (h : ¬ k + 1 < l.length) (hd : dotAt l = k + dotAt (l.drop k)) : dotAt l = k := by
  have : (l.drop k).length ≤ 1 := by rw [List.length_drop]; omega
  rw [hd]
  match hm : l.drop k, this with
  | [], _ => rfl
  | [_], _ => rfl
theorem dotAt_le : ∀ l : List UInt8, dotAt l ≤ l.length
  | [] => Nat.le_refl _
  | [_] => Nat.zero_le _
  | a :: b :: r => by
    unfold dotAt
    split
    · exact Nat.zero_le _
    · have := dotAt_le (b :: r)
      simp only [List.length_cons] at *
      omega
theorem loS_size (s : ByteArray) : (loS s).size ≤ s.size := by unfold loS; rw [ByteArray.size_extract]; omega
theorem hiS_size (s : ByteArray) : (hiS s).size ≤ s.size := by unfold hiS; rw [ByteArray.size_extract]; omega

set_option maxRecDepth 100000 in
set_option maxHeartbeats 1000000 in
theorem parU_any (s : ByteArray) (w : World) (hs : s.size ≤ 100) :
    Calls Tryz.prog 32 #[.string s] w fun x w' => x = .returned (.tuple #[V4 (prR s), .int .i64 (prRE s)]) ∧ Below w.heap.size w w' := by
  have h1 := Lib.hid (fun X => parE_any (loS s) X (Nat.le_trans (loS_size s) hs))
  have h2 := Lib.hid (fun X => parE_any (hiS s) X (Nat.le_trans (hiS_size s) hs))
  have h3 := Lib.hid (fun X => chkU_any (prI (loS s)) (prD (loS s)) (prI (hiS s)) (prD (hiS s)) X)
  have h0 := prR_cases s
  unfold prRun at h0
  obtain ⟨L, HE1⟩ : ∃ L, Hid (L = loS s) := ⟨_, rfl⟩
  obtain ⟨H, HE2⟩ : ∃ H, Hid (H = hiS s) := ⟨_, rfl⟩
  rw [← HE1.out, ← HE2.out] at h0
  rw [← HE1.out] at h1 h3
  rw [← HE2.out] at h2 h3
  generalize prI L = i1 at *
  generalize prD L = d1 at *
  generalize prE L = e at *
  generalize prI H = j1 at *
  generalize prD H = d2 at *
  generalize prE H = f at *
  rcases h0 with ⟨a0, q1, q2⟩ | ⟨a0, a1, q1, q2⟩ | ⟨a0, a1, a2, q1, q2⟩ | ⟨a0, a1, a2, q1, q2⟩ | ⟨a0, a1, a2, q1, q2⟩ | ⟨a0, a1, a2, a3, q1, q2⟩ | ⟨a0, a1, a2, a3, q1, q2⟩
  all_goals
    rw [q1, q2]
    clear q1 q2
  · clear h1 h2 h3 HE1 HE2
    go_enter Tryz.func32, Tryz.ntmps32
    go_upto_region 1 with fail
    obtain ⟨hZ, hs0, hb⟩ := run_new w 0 0 0 0 _ rfl
    generalize (w.alloc (Obj.cells #[Value.int IntKind.i8 0, Value.int IntKind.i64 0, Value.int IntKind.i8 0, Value.int IntKind.i64 0] 26)) = W1 at *
    have hlt : w.heap.size < W1.heap.size := by omega
    clear hs0
    go_upto_region 2 with fail
    go_loop [4] (fun i => ∃ k : Nat, k ≤ s.size ∧ i = .int .i64 k ∧ Hid (dotAt s.data.toList = k + dotAt (s.data.toList.drop k))) (fun i => s.size - (intOf i).toNat)
    case atStart => exact ⟨0, Nat.zero_le _, rfl, Lib.hid (by simp)⟩
    case round =>
      obtain ⟨k, hk, rfl, hdot⟩ := hrel
      by_cases hlk : k + 1 < s.size
      · have hlk0 : k < s.size := by omega
        have hlkI : (k : Int) + 1 < (s.size : Int) := by omega
        cases p1 : ((s[k].toNat : Int) == 46)
        · have p3 : ((s[k].toNat : Int) != 46) = true := by unfold bne; rw [p1]; rfl
          have HN := Lib.hid (dot_step (l := s.data.toList) (k := k) (by simpa [← ByteArray.size_data] using hlk) (fun q => by
            have : ((s[k].toNat : Int) == 46) = true := beq_iff_eq.2 (by have := congrArg UInt8.toNat q.1; exact_mod_cast this)
            rw [p1] at this; cases this) hdot.out)
          clear hdot
          go_wp2
          go_round
          case rel => exact ⟨k + 1, by omega, by go_num, HN⟩
          case measure => simp [intOf]; omega
        · have p3 : ((s[k].toNat : Int) != 46) = false := by unfold bne; rw [p1]; rfl
          cases p2 : ((s[k + 1].toNat : Int) == 46)
          · have p4 : ((s[k + 1].toNat : Int) != 46) = true := by unfold bne; rw [p2]; rfl
            have HN := Lib.hid (dot_step (l := s.data.toList) (k := k) (by simpa [← ByteArray.size_data] using hlk) (fun q => by
              have : ((s[k + 1].toNat : Int) == 46) = true := beq_iff_eq.2 (by have := congrArg UInt8.toNat q.2; exact_mod_cast this)
              rw [p2] at this; cases this) hdot.out)
            clear hdot
            go_wp2
            go_round
            case rel => exact ⟨k + 1, by omega, by go_num, HN⟩
            case measure => simp [intOf]; omega
          have p4 : ((s[k + 1].toNat : Int) != 46) = false := by unfold bne; rw [p2]; rfl
          have hn : dotS s = k := dot_here (l := s.data.toList) (by simpa [← ByteArray.size_data] using hlk) ⟨UInt8.toNat_inj.1 (by have := beq_iff_eq.1 p1; exact_mod_cast this), UInt8.toNat_inj.1 (by have := beq_iff_eq.1 p2; exact_mod_cast this)⟩ hdot.out
          exact absurd (by rw [hn]; exact hlk) a0
      · have hn : dotS s = k := dot_end (l := s.data.toList) (by simpa [← ByteArray.size_data] using hlk) hdot.out
        have hlkI : ¬ (k : Int) + 1 < (s.size : Int) := by omega
        have hlkJ : (s.size : Int) ≤ (k : Int) + 1 := by omega
        clear hdot hn a0
        have HZ := Lib.hid (hZ)
        obtain ⟨z0, z1, z2, z3⟩ := HZ.out.quad
        have y0 := HZ.out.frozen 0
        have y1 := HZ.out.frozen 1
        have y2 := HZ.out.frozen 2
        have y3 := HZ.out.frozen 3
        have HB := Lib.hid hb
        clear hZ hb
        go_wp2_with fail
        exact bodyPost_ret (res_run2 rfl rfl rfl (HZ.out.store 0 0 0 0).quad) rfl ⟨rfl, set4_below HB.out (by omega) 0 0 0 0⟩
  · subst a1
    go_enter Tryz.func32, Tryz.ntmps32
    go_upto_region 1 with fail
    obtain ⟨hZ, hs0, hb⟩ := run_new w 0 0 0 0 _ rfl
    generalize (w.alloc (Obj.cells #[Value.int IntKind.i8 0, Value.int IntKind.i64 0, Value.int IntKind.i8 0, Value.int IntKind.i64 0] 26)) = W1 at *
    have hlt : w.heap.size < W1.heap.size := by omega
    clear hs0
    go_upto_region 2 with fail
    go_loop [4] (fun i => ∃ k : Nat, k ≤ s.size ∧ i = .int .i64 k ∧ Hid (dotAt s.data.toList = k + dotAt (s.data.toList.drop k))) (fun i => s.size - (intOf i).toNat)
    case atStart => exact ⟨0, Nat.zero_le _, rfl, Lib.hid (by simp)⟩
    case round =>
      obtain ⟨k, hk, rfl, hdot⟩ := hrel
      by_cases hlk : k + 1 < s.size
      · have hlk0 : k < s.size := by omega
        have hlkI : (k : Int) + 1 < (s.size : Int) := by omega
        cases p1 : ((s[k].toNat : Int) == 46)
        · have p3 : ((s[k].toNat : Int) != 46) = true := by unfold bne; rw [p1]; rfl
          have HN := Lib.hid (dot_step (l := s.data.toList) (k := k) (by simpa [← ByteArray.size_data] using hlk) (fun q => by
            have : ((s[k].toNat : Int) == 46) = true := beq_iff_eq.2 (by have := congrArg UInt8.toNat q.1; exact_mod_cast this)
            rw [p1] at this; cases this) hdot.out)
          clear hdot
          go_wp2
          go_round
          case rel => exact ⟨k + 1, by omega, by go_num, HN⟩
          case measure => simp [intOf]; omega
        · have p3 : ((s[k].toNat : Int) != 46) = false := by unfold bne; rw [p1]; rfl
          cases p2 : ((s[k + 1].toNat : Int) == 46)
          · have p4 : ((s[k + 1].toNat : Int) != 46) = true := by unfold bne; rw [p2]; rfl
            have HN := Lib.hid (dot_step (l := s.data.toList) (k := k) (by simpa [← ByteArray.size_data] using hlk) (fun q => by
              have : ((s[k + 1].toNat : Int) == 46) = true := beq_iff_eq.2 (by have := congrArg UInt8.toNat q.2; exact_mod_cast this)
              rw [p2] at this; cases this) hdot.out)
            clear hdot
            go_wp2
            go_round
            case rel => exact ⟨k + 1, by omega, by go_num, HN⟩
            case measure => simp [intOf]; omega
          have p4 : ((s[k + 1].toNat : Int) != 46) = false := by unfold bne; rw [p2]; rfl
          have hn : dotS s = k := dot_here (l := s.data.toList) (by simpa [← ByteArray.size_data] using hlk) ⟨UInt8.toNat_inj.1 (by have := beq_iff_eq.1 p1; exact_mod_cast this), UInt8.toNat_inj.1 (by have := beq_iff_eq.1 p2; exact_mod_cast this)⟩ hdot.out
          have e1 := HE1.out.trans (show loS s = s.extract 0 k by unfold loS; rw [hn])
          have e2 := HE2.out.trans (show hiS s = s.extract (k + 2) s.size by unfold hiS; rw [hn])
          subst e1
          subst e2
          have bb := Below.refl W1.heap.size W1
          have H1 := Lib.hid (fun X (h : Below W1.heap.size W1 X) => callB9 h1.out h)
          have hk2 : (k : Int) + 2 ≤ (s.size : Int) := by omega
          clear h1 hdot HE1 HE2 hn a0
          go_upto_region 7 with (go_at_call 62; ((with_reducible refine (H1.out _ bb).mono ?_); rintro z w2 ⟨rfl, hk9⟩))
          obtain ⟨g6, g7, g8⟩ := end_new w2 i1 d1 _ rfl
          have hX := hk9.trans (g8.mono hk9.size)
          generalize (w2.alloc (Obj.cells #[Value.int IntKind.i8 i1, Value.int IntKind.i64 d1] 24)) = W3 at *
          have hg : W1.heap.size ≤ w2.heap.size := hk9.size
          generalize w2.heap.size = g at *
          clear hk9 g8 H1 bb
          have H2 := Lib.hid (fun X (h : Below W3.heap.size W3 X) => callB9 h2.out h)
          clear h2
          go_upto_region 8 with (go_at_call 62; ((with_reducible refine (H2.out _ (Below.refl _ _)).mono ?_); rintro z w4 ⟨rfl, hk9⟩))
          obtain ⟨j6, j7, j8⟩ := end_new w4 j1 d2 _ rfl
          have hY := hk9.trans (j8.mono hk9.size)
          generalize (w4.alloc (Obj.cells #[Value.int IntKind.i8 j1, Value.int IntKind.i64 d2] 24)) = W5 at *
          generalize w4.heap.size = h at *
          have g9 := g6.below g7 hY
          have hB := hX.trans (hY.mono (by omega))
          clear hk9 j8 g6 g7 hX hY H2
          clear h3 g9 j6 j7
          have HZ := Lib.hid (hZ.below hlt hB)
          obtain ⟨z0, z1, z2, z3⟩ := HZ.out.quad
          have y0 := HZ.out.frozen 0
          have y1 := HZ.out.frozen 1
          have y2 := HZ.out.frozen 2
          have y3 := HZ.out.frozen 3
          have HB := Lib.hid (hb.trans (hB.mono (by omega)))
          clear hB hb hZ
          go_wp2_with fail
          exact bodyPost_ret (res_run2 rfl rfl rfl (HZ.out.store 0 0 0 0).quad) rfl ⟨rfl, set4_below HB.out (by omega) 0 0 0 0⟩
      · have hn : dotS s = k := dot_end (l := s.data.toList) (by simpa [← ByteArray.size_data] using hlk) hdot.out
        exact absurd (by rw [hn] at a0; exact a0) hlk
  · subst a2
    go_enter Tryz.func32, Tryz.ntmps32
    go_upto_region 1 with fail
    obtain ⟨hZ, hs0, hb⟩ := run_new w 0 0 0 0 _ rfl
    generalize (w.alloc (Obj.cells #[Value.int IntKind.i8 0, Value.int IntKind.i64 0, Value.int IntKind.i8 0, Value.int IntKind.i64 0] 26)) = W1 at *
    have hlt : w.heap.size < W1.heap.size := by omega
    clear hs0
    go_upto_region 2 with fail
    go_loop [4] (fun i => ∃ k : Nat, k ≤ s.size ∧ i = .int .i64 k ∧ Hid (dotAt s.data.toList = k + dotAt (s.data.toList.drop k))) (fun i => s.size - (intOf i).toNat)
    case atStart => exact ⟨0, Nat.zero_le _, rfl, Lib.hid (by simp)⟩
    case round =>
      obtain ⟨k, hk, rfl, hdot⟩ := hrel
      by_cases hlk : k + 1 < s.size
      · have hlk0 : k < s.size := by omega
        have hlkI : (k : Int) + 1 < (s.size : Int) := by omega
        cases p1 : ((s[k].toNat : Int) == 46)
        · have p3 : ((s[k].toNat : Int) != 46) = true := by unfold bne; rw [p1]; rfl
          have HN := Lib.hid (dot_step (l := s.data.toList) (k := k) (by simpa [← ByteArray.size_data] using hlk) (fun q => by
            have : ((s[k].toNat : Int) == 46) = true := beq_iff_eq.2 (by have := congrArg UInt8.toNat q.1; exact_mod_cast this)
            rw [p1] at this; cases this) hdot.out)
          clear hdot
          go_wp2
          go_round
          case rel => exact ⟨k + 1, by omega, by go_num, HN⟩
          case measure => simp [intOf]; omega
        · have p3 : ((s[k].toNat : Int) != 46) = false := by unfold bne; rw [p1]; rfl
          cases p2 : ((s[k + 1].toNat : Int) == 46)
          · have p4 : ((s[k + 1].toNat : Int) != 46) = true := by unfold bne; rw [p2]; rfl
            have HN := Lib.hid (dot_step (l := s.data.toList) (k := k) (by simpa [← ByteArray.size_data] using hlk) (fun q => by
              have : ((s[k + 1].toNat : Int) == 46) = true := beq_iff_eq.2 (by have := congrArg UInt8.toNat q.2; exact_mod_cast this)
              rw [p2] at this; cases this) hdot.out)
            clear hdot
            go_wp2
            go_round
            case rel => exact ⟨k + 1, by omega, by go_num, HN⟩
            case measure => simp [intOf]; omega
          have p4 : ((s[k + 1].toNat : Int) != 46) = false := by unfold bne; rw [p2]; rfl
          have hn : dotS s = k := dot_here (l := s.data.toList) (by simpa [← ByteArray.size_data] using hlk) ⟨UInt8.toNat_inj.1 (by have := beq_iff_eq.1 p1; exact_mod_cast this), UInt8.toNat_inj.1 (by have := beq_iff_eq.1 p2; exact_mod_cast this)⟩ hdot.out
          have e1 := HE1.out.trans (show loS s = s.extract 0 k by unfold loS; rw [hn])
          have e2 := HE2.out.trans (show hiS s = s.extract (k + 2) s.size by unfold hiS; rw [hn])
          subst e1
          subst e2
          have bb := Below.refl W1.heap.size W1
          have H1 := Lib.hid (fun X (h : Below W1.heap.size W1 X) => callB9 h1.out h)
          have hk2 : (k : Int) + 2 ≤ (s.size : Int) := by omega
          clear h1 hdot HE1 HE2 hn a0
          go_upto_region 7 with (go_at_call 62; ((with_reducible refine (H1.out _ bb).mono ?_); rintro z w2 ⟨rfl, hk9⟩))
          obtain ⟨g6, g7, g8⟩ := end_new w2 i1 d1 _ rfl
          have hX := hk9.trans (g8.mono hk9.size)
          generalize (w2.alloc (Obj.cells #[Value.int IntKind.i8 i1, Value.int IntKind.i64 d1] 24)) = W3 at *
          have hg : W1.heap.size ≤ w2.heap.size := hk9.size
          generalize w2.heap.size = g at *
          clear hk9 g8 H1 bb
          have H2 := Lib.hid (fun X (h : Below W3.heap.size W3 X) => callB9 h2.out h)
          clear h2
          go_upto_region 8 with (go_at_call 62; ((with_reducible refine (H2.out _ (Below.refl _ _)).mono ?_); rintro z w4 ⟨rfl, hk9⟩))
          obtain ⟨j6, j7, j8⟩ := end_new w4 j1 d2 _ rfl
          have hY := hk9.trans (j8.mono hk9.size)
          generalize (w4.alloc (Obj.cells #[Value.int IntKind.i8 j1, Value.int IntKind.i64 d2] 24)) = W5 at *
          generalize w4.heap.size = h at *
          have g9 := g6.below g7 hY
          have hB := hX.trans (hY.mono (by omega))
          clear hk9 j8 g6 g7 hX hY H2
          clear h3 g9 j6 j7
          have HZ := Lib.hid (hZ.below hlt hB)
          obtain ⟨z0, z1, z2, z3⟩ := HZ.out.quad
          have y0 := HZ.out.frozen 0
          have y1 := HZ.out.frozen 1
          have y2 := HZ.out.frozen 2
          have y3 := HZ.out.frozen 3
          have HB := Lib.hid (hb.trans (hB.mono (by omega)))
          clear hB hb hZ
          go_wp2_with fail
          exact bodyPost_ret (res_run2 rfl rfl rfl (HZ.out.store 0 0 0 0).quad) rfl ⟨rfl, set4_below HB.out (by omega) 0 0 0 0⟩
      · have hn : dotS s = k := dot_end (l := s.data.toList) (by simpa [← ByteArray.size_data] using hlk) hdot.out
        exact absurd (by rw [hn] at a0; exact a0) hlk
  · subst a1
    go_enter Tryz.func32, Tryz.ntmps32
    go_upto_region 1 with fail
    obtain ⟨hZ, hs0, hb⟩ := run_new w 0 0 0 0 _ rfl
    generalize (w.alloc (Obj.cells #[Value.int IntKind.i8 0, Value.int IntKind.i64 0, Value.int IntKind.i8 0, Value.int IntKind.i64 0] 26)) = W1 at *
    have hlt : w.heap.size < W1.heap.size := by omega
    clear hs0
    go_upto_region 2 with fail
    go_loop [4] (fun i => ∃ k : Nat, k ≤ s.size ∧ i = .int .i64 k ∧ Hid (dotAt s.data.toList = k + dotAt (s.data.toList.drop k))) (fun i => s.size - (intOf i).toNat)
    case atStart => exact ⟨0, Nat.zero_le _, rfl, Lib.hid (by simp)⟩
    case round =>
      obtain ⟨k, hk, rfl, hdot⟩ := hrel
      by_cases hlk : k + 1 < s.size
      · have hlk0 : k < s.size := by omega
        have hlkI : (k : Int) + 1 < (s.size : Int) := by omega
        cases p1 : ((s[k].toNat : Int) == 46)
        · have p3 : ((s[k].toNat : Int) != 46) = true := by unfold bne; rw [p1]; rfl
          have HN := Lib.hid (dot_step (l := s.data.toList) (k := k) (by simpa [← ByteArray.size_data] using hlk) (fun q => by
            have : ((s[k].toNat : Int) == 46) = true := beq_iff_eq.2 (by have := congrArg UInt8.toNat q.1; exact_mod_cast this)
            rw [p1] at this; cases this) hdot.out)
          clear hdot
          go_wp2
          go_round
          case rel => exact ⟨k + 1, by omega, by go_num, HN⟩
          case measure => simp [intOf]; omega
        · have p3 : ((s[k].toNat : Int) != 46) = false := by unfold bne; rw [p1]; rfl
          cases p2 : ((s[k + 1].toNat : Int) == 46)
          · have p4 : ((s[k + 1].toNat : Int) != 46) = true := by unfold bne; rw [p2]; rfl
            have HN := Lib.hid (dot_step (l := s.data.toList) (k := k) (by simpa [← ByteArray.size_data] using hlk) (fun q => by
              have : ((s[k + 1].toNat : Int) == 46) = true := beq_iff_eq.2 (by have := congrArg UInt8.toNat q.2; exact_mod_cast this)
              rw [p2] at this; cases this) hdot.out)
            clear hdot
            go_wp2
            go_round
            case rel => exact ⟨k + 1, by omega, by go_num, HN⟩
            case measure => simp [intOf]; omega
          have p4 : ((s[k + 1].toNat : Int) != 46) = false := by unfold bne; rw [p2]; rfl
          have hn : dotS s = k := dot_here (l := s.data.toList) (by simpa [← ByteArray.size_data] using hlk) ⟨UInt8.toNat_inj.1 (by have := beq_iff_eq.1 p1; exact_mod_cast this), UInt8.toNat_inj.1 (by have := beq_iff_eq.1 p2; exact_mod_cast this)⟩ hdot.out
          have e1 := HE1.out.trans (show loS s = s.extract 0 k by unfold loS; rw [hn])
          have e2 := HE2.out.trans (show hiS s = s.extract (k + 2) s.size by unfold hiS; rw [hn])
          subst e1
          subst e2
          have bb := Below.refl W1.heap.size W1
          have H1 := Lib.hid (fun X (h : Below W1.heap.size W1 X) => callB9 h1.out h)
          have hk2 : (k : Int) + 2 ≤ (s.size : Int) := by omega
          clear h1 hdot HE1 HE2 hn a0
          go_upto_region 7 with (go_at_call 62; ((with_reducible refine (H1.out _ bb).mono ?_); rintro z w2 ⟨rfl, hk9⟩))
          obtain ⟨g6, g7, g8⟩ := end_new w2 i1 d1 _ rfl
          have hX := hk9.trans (g8.mono hk9.size)
          generalize (w2.alloc (Obj.cells #[Value.int IntKind.i8 i1, Value.int IntKind.i64 d1] 24)) = W3 at *
          have hg : W1.heap.size ≤ w2.heap.size := hk9.size
          generalize w2.heap.size = g at *
          clear hk9 g8 H1 bb
          have H2 := Lib.hid (fun X (h : Below W3.heap.size W3 X) => callB9 h2.out h)
          clear h2
          go_upto_region 8 with (go_at_call 62; ((with_reducible refine (H2.out _ (Below.refl _ _)).mono ?_); rintro z w4 ⟨rfl, hk9⟩))
          obtain ⟨j6, j7, j8⟩ := end_new w4 j1 d2 _ rfl
          have hY := hk9.trans (j8.mono hk9.size)
          generalize (w4.alloc (Obj.cells #[Value.int IntKind.i8 j1, Value.int IntKind.i64 d2] 24)) = W5 at *
          generalize w4.heap.size = h at *
          have g9 := g6.below g7 hY
          have hB := hX.trans (hY.mono (by omega))
          clear hk9 j8 g6 g7 hX hY H2
          clear h3 g9 j6 j7
          have HZ := Lib.hid (hZ.below hlt hB)
          obtain ⟨z0, z1, z2, z3⟩ := HZ.out.quad
          have y0 := HZ.out.frozen 0
          have y1 := HZ.out.frozen 1
          have y2 := HZ.out.frozen 2
          have y3 := HZ.out.frozen 3
          have HB := Lib.hid (hb.trans (hB.mono (by omega)))
          clear hB hb hZ
          go_wp2_with fail
          exact bodyPost_ret (res_run2 rfl rfl rfl (HZ.out.store 0 0 0 0).quad) rfl ⟨rfl, set4_below HB.out (by omega) 0 0 0 0⟩
      · have hn : dotS s = k := dot_end (l := s.data.toList) (by simpa [← ByteArray.size_data] using hlk) hdot.out
        exact absurd (by rw [hn] at a0; exact a0) hlk
  · subst a1; subst a2
    go_enter Tryz.func32, Tryz.ntmps32
    go_upto_region 1 with fail
    obtain ⟨hZ, hs0, hb⟩ := run_new w 0 0 0 0 _ rfl
    generalize (w.alloc (Obj.cells #[Value.int IntKind.i8 0, Value.int IntKind.i64 0, Value.int IntKind.i8 0, Value.int IntKind.i64 0] 26)) = W1 at *
    have hlt : w.heap.size < W1.heap.size := by omega
    clear hs0
    go_upto_region 2 with fail
    go_loop [4] (fun i => ∃ k : Nat, k ≤ s.size ∧ i = .int .i64 k ∧ Hid (dotAt s.data.toList = k + dotAt (s.data.toList.drop k))) (fun i => s.size - (intOf i).toNat)
    case atStart => exact ⟨0, Nat.zero_le _, rfl, Lib.hid (by simp)⟩
    case round =>
      obtain ⟨k, hk, rfl, hdot⟩ := hrel
      by_cases hlk : k + 1 < s.size
      · have hlk0 : k < s.size := by omega
        have hlkI : (k : Int) + 1 < (s.size : Int) := by omega
        cases p1 : ((s[k].toNat : Int) == 46)
        · have p3 : ((s[k].toNat : Int) != 46) = true := by unfold bne; rw [p1]; rfl
          have HN := Lib.hid (dot_step (l := s.data.toList) (k := k) (by simpa [← ByteArray.size_data] using hlk) (fun q => by
            have : ((s[k].toNat : Int) == 46) = true := beq_iff_eq.2 (by have := congrArg UInt8.toNat q.1; exact_mod_cast this)
            rw [p1] at this; cases this) hdot.out)
          clear hdot
          go_wp2
          go_round
          case rel => exact ⟨k + 1, by omega, by go_num, HN⟩
          case measure => simp [intOf]; omega
        · have p3 : ((s[k].toNat : Int) != 46) = false := by unfold bne; rw [p1]; rfl
          cases p2 : ((s[k + 1].toNat : Int) == 46)
          · have p4 : ((s[k + 1].toNat : Int) != 46) = true := by unfold bne; rw [p2]; rfl
            have HN := Lib.hid (dot_step (l := s.data.toList) (k := k) (by simpa [← ByteArray.size_data] using hlk) (fun q => by
              have : ((s[k + 1].toNat : Int) == 46) = true := beq_iff_eq.2 (by have := congrArg UInt8.toNat q.2; exact_mod_cast this)
              rw [p2] at this; cases this) hdot.out)
            clear hdot
            go_wp2
            go_round
            case rel => exact ⟨k + 1, by omega, by go_num, HN⟩
            case measure => simp [intOf]; omega
          have p4 : ((s[k + 1].toNat : Int) != 46) = false := by unfold bne; rw [p2]; rfl
          have hn : dotS s = k := dot_here (l := s.data.toList) (by simpa [← ByteArray.size_data] using hlk) ⟨UInt8.toNat_inj.1 (by have := beq_iff_eq.1 p1; exact_mod_cast this), UInt8.toNat_inj.1 (by have := beq_iff_eq.1 p2; exact_mod_cast this)⟩ hdot.out
          have e1 := HE1.out.trans (show loS s = s.extract 0 k by unfold loS; rw [hn])
          have e2 := HE2.out.trans (show hiS s = s.extract (k + 2) s.size by unfold hiS; rw [hn])
          subst e1
          subst e2
          have bb := Below.refl W1.heap.size W1
          have H1 := Lib.hid (fun X (h : Below W1.heap.size W1 X) => callB9 h1.out h)
          have hk2 : (k : Int) + 2 ≤ (s.size : Int) := by omega
          clear h1 hdot HE1 HE2 hn a0
          go_upto_region 7 with (go_at_call 62; ((with_reducible refine (H1.out _ bb).mono ?_); rintro z w2 ⟨rfl, hk9⟩))
          obtain ⟨g6, g7, g8⟩ := end_new w2 i1 d1 _ rfl
          have hX := hk9.trans (g8.mono hk9.size)
          generalize (w2.alloc (Obj.cells #[Value.int IntKind.i8 i1, Value.int IntKind.i64 d1] 24)) = W3 at *
          have hg : W1.heap.size ≤ w2.heap.size := hk9.size
          generalize w2.heap.size = g at *
          clear hk9 g8 H1 bb
          have H2 := Lib.hid (fun X (h : Below W3.heap.size W3 X) => callB9 h2.out h)
          clear h2
          go_upto_region 8 with (go_at_call 62; ((with_reducible refine (H2.out _ (Below.refl _ _)).mono ?_); rintro z w4 ⟨rfl, hk9⟩))
          obtain ⟨j6, j7, j8⟩ := end_new w4 j1 d2 _ rfl
          have hY := hk9.trans (j8.mono hk9.size)
          generalize (w4.alloc (Obj.cells #[Value.int IntKind.i8 j1, Value.int IntKind.i64 d2] 24)) = W5 at *
          generalize w4.heap.size = h at *
          have g9 := g6.below g7 hY
          have hB := hX.trans (hY.mono (by omega))
          clear hk9 j8 g6 g7 hX hY H2
          clear h3 g9 j6 j7
          have HZ := Lib.hid (hZ.below hlt hB)
          obtain ⟨z0, z1, z2, z3⟩ := HZ.out.quad
          have y0 := HZ.out.frozen 0
          have y1 := HZ.out.frozen 1
          have y2 := HZ.out.frozen 2
          have y3 := HZ.out.frozen 3
          have HB := Lib.hid (hb.trans (hB.mono (by omega)))
          clear hB hb hZ
          go_wp2_with fail
          exact bodyPost_ret (res_run2 rfl rfl rfl (HZ.out.store 0 0 0 0).quad) rfl ⟨rfl, set4_below HB.out (by omega) 0 0 0 0⟩
      · have hn : dotS s = k := dot_end (l := s.data.toList) (by simpa [← ByteArray.size_data] using hlk) hdot.out
        exact absurd (by rw [hn] at a0; exact a0) hlk
  · subst a1; subst a2
    generalize ruE ⟨i1, d1, j1, d2⟩ = r at *
    go_enter Tryz.func32, Tryz.ntmps32
    go_upto_region 1 with fail
    obtain ⟨hZ, hs0, hb⟩ := run_new w 0 0 0 0 _ rfl
    generalize (w.alloc (Obj.cells #[Value.int IntKind.i8 0, Value.int IntKind.i64 0, Value.int IntKind.i8 0, Value.int IntKind.i64 0] 26)) = W1 at *
    have hlt : w.heap.size < W1.heap.size := by omega
    clear hs0
    go_upto_region 2 with fail
    go_loop [4] (fun i => ∃ k : Nat, k ≤ s.size ∧ i = .int .i64 k ∧ Hid (dotAt s.data.toList = k + dotAt (s.data.toList.drop k))) (fun i => s.size - (intOf i).toNat)
    case atStart => exact ⟨0, Nat.zero_le _, rfl, Lib.hid (by simp)⟩
    case round =>
      obtain ⟨k, hk, rfl, hdot⟩ := hrel
      by_cases hlk : k + 1 < s.size
      · have hlk0 : k < s.size := by omega
        have hlkI : (k : Int) + 1 < (s.size : Int) := by omega
        cases p1 : ((s[k].toNat : Int) == 46)
        · have p3 : ((s[k].toNat : Int) != 46) = true := by unfold bne; rw [p1]; rfl
          have HN := Lib.hid (dot_step (l := s.data.toList) (k := k) (by simpa [← ByteArray.size_data] using hlk) (fun q => by
            have : ((s[k].toNat : Int) == 46) = true := beq_iff_eq.2 (by have := congrArg UInt8.toNat q.1; exact_mod_cast this)
            rw [p1] at this; cases this) hdot.out)
          clear hdot
          go_wp2
          go_round
          case rel => exact ⟨k + 1, by omega, by go_num, HN⟩
          case measure => simp [intOf]; omega
        · have p3 : ((s[k].toNat : Int) != 46) = false := by unfold bne; rw [p1]; rfl
          cases p2 : ((s[k + 1].toNat : Int) == 46)
          · have p4 : ((s[k + 1].toNat : Int) != 46) = true := by unfold bne; rw [p2]; rfl
            have HN := Lib.hid (dot_step (l := s.data.toList) (k := k) (by simpa [← ByteArray.size_data] using hlk) (fun q => by
              have : ((s[k + 1].toNat : Int) == 46) = true := beq_iff_eq.2 (by have := congrArg UInt8.toNat q.2; exact_mod_cast this)
              rw [p2] at this; cases this) hdot.out)
            clear hdot
            go_wp2
            go_round
            case rel => exact ⟨k + 1, by omega, by go_num, HN⟩
            case measure => simp [intOf]; omega
          have p4 : ((s[k + 1].toNat : Int) != 46) = false := by unfold bne; rw [p2]; rfl
          have hn : dotS s = k := dot_here (l := s.data.toList) (by simpa [← ByteArray.size_data] using hlk) ⟨UInt8.toNat_inj.1 (by have := beq_iff_eq.1 p1; exact_mod_cast this), UInt8.toNat_inj.1 (by have := beq_iff_eq.1 p2; exact_mod_cast this)⟩ hdot.out
          have e1 := HE1.out.trans (show loS s = s.extract 0 k by unfold loS; rw [hn])
          have e2 := HE2.out.trans (show hiS s = s.extract (k + 2) s.size by unfold hiS; rw [hn])
          subst e1
          subst e2
          have bb := Below.refl W1.heap.size W1
          have H1 := Lib.hid (fun X (h : Below W1.heap.size W1 X) => callB9 h1.out h)
          have hk2 : (k : Int) + 2 ≤ (s.size : Int) := by omega
          clear h1 hdot HE1 HE2 hn a0
          go_upto_region 7 with (go_at_call 62; ((with_reducible refine (H1.out _ bb).mono ?_); rintro z w2 ⟨rfl, hk9⟩))
          obtain ⟨g6, g7, g8⟩ := end_new w2 i1 d1 _ rfl
          have hX := hk9.trans (g8.mono hk9.size)
          generalize (w2.alloc (Obj.cells #[Value.int IntKind.i8 i1, Value.int IntKind.i64 d1] 24)) = W3 at *
          have hg : W1.heap.size ≤ w2.heap.size := hk9.size
          generalize w2.heap.size = g at *
          clear hk9 g8 H1 bb
          have H2 := Lib.hid (fun X (h : Below W3.heap.size W3 X) => callB9 h2.out h)
          clear h2
          go_upto_region 8 with (go_at_call 62; ((with_reducible refine (H2.out _ (Below.refl _ _)).mono ?_); rintro z w4 ⟨rfl, hk9⟩))
          obtain ⟨j6, j7, j8⟩ := end_new w4 j1 d2 _ rfl
          have hY := hk9.trans (j8.mono hk9.size)
          generalize (w4.alloc (Obj.cells #[Value.int IntKind.i8 j1, Value.int IntKind.i64 d2] 24)) = W5 at *
          generalize w4.heap.size = h at *
          have g9 := g6.below g7 hY
          have hB := hX.trans (hY.mono (by omega))
          clear hk9 j8 g6 g7 hX hY H2
          obtain ⟨o0, o1⟩ := g9.duo
          obtain ⟨p0, p1'⟩ := j6.duo
          go_upto_region 13 with fail
          obtain ⟨q6, q7, q8⟩ := run_new W5 i1 d1 j1 d2 _ rfl
          have hC := hB.trans (q8.mono hB.size)
          have hlt5 : W5.heap.size < (W5.alloc (Obj.cells #[Value.int IntKind.i8 i1, Value.int IntKind.i64 d1, Value.int IntKind.i8 j1, Value.int IntKind.i64 d2] 26)).heap.size := by rw [q7]; omega
          generalize (W5.alloc (Obj.cells #[Value.int IntKind.i8 i1, Value.int IntKind.i64 d1, Value.int IntKind.i8 j1, Value.int IntKind.i64 d2] 26)) = W6 at *
          clear hB q7 q8 o0 o1 p0 p1' g9 j6 j7
          generalize W5.heap.size = g5 at *
          obtain ⟨k0, k1, k2, k3⟩ := id q6.quad
          have hX := Below.refl W6.heap.size W6
          have H3 := Lib.hid (fun X (h : Below W6.heap.size W6 X) => callB9 h3.out h)
          clear h3
          go_wp2_with (go_at_call 7; ((with_reducible refine (H3.out _ hX).mono ?_); rintro z w7 ⟨rfl, hk9⟩; (try clear hX); have hX := hk9; (try clear m0 m1 m2 m3 z0 z1 z2 z3 y0 y1 y2 y3 HZ HB); obtain ⟨m0, m1, m2, m3⟩ := (q6.below hlt5 hk9).quad; have HZ := Lib.hid (hZ.below hlt (hC.trans (hk9.mono hC.size))); obtain ⟨z0, z1, z2, z3⟩ := HZ.out.quad; have y0 := HZ.out.frozen 0; have y1 := HZ.out.frozen 1; have y2 := HZ.out.frozen 2; have y3 := HZ.out.frozen 3; have HB := Lib.hid (hb.trans ((hC.trans (hk9.mono hC.size)).mono (by omega))); clear hk9))
          exact bodyPost_ret (res_run2 rfl rfl rfl (HZ.out.store 0 0 0 0).quad) rfl ⟨rfl, set4_below HB.out (by omega) 0 0 0 0⟩
      · have hn : dotS s = k := dot_end (l := s.data.toList) (by simpa [← ByteArray.size_data] using hlk) hdot.out
        exact absurd (by rw [hn] at a0; exact a0) hlk
  · subst a1; subst a2
    rw [a3] at h3
    clear a3
    go_enter Tryz.func32, Tryz.ntmps32
    go_upto_region 1 with fail
    obtain ⟨hZ, hs0, hb⟩ := run_new w 0 0 0 0 _ rfl
    generalize (w.alloc (Obj.cells #[Value.int IntKind.i8 0, Value.int IntKind.i64 0, Value.int IntKind.i8 0, Value.int IntKind.i64 0] 26)) = W1 at *
    have hlt : w.heap.size < W1.heap.size := by omega
    clear hs0
    go_upto_region 2 with fail
    go_loop [4] (fun i => ∃ k : Nat, k ≤ s.size ∧ i = .int .i64 k ∧ Hid (dotAt s.data.toList = k + dotAt (s.data.toList.drop k))) (fun i => s.size - (intOf i).toNat)
    case atStart => exact ⟨0, Nat.zero_le _, rfl, Lib.hid (by simp)⟩
    case round =>
      obtain ⟨k, hk, rfl, hdot⟩ := hrel
      by_cases hlk : k + 1 < s.size
      · have hlk0 : k < s.size := by omega
        have hlkI : (k : Int) + 1 < (s.size : Int) := by omega
        cases p1 : ((s[k].toNat : Int) == 46)
        · have p3 : ((s[k].toNat : Int) != 46) = true := by unfold bne; rw [p1]; rfl
          have HN := Lib.hid (dot_step (l := s.data.toList) (k := k) (by simpa [← ByteArray.size_data] using hlk) (fun q => by
            have : ((s[k].toNat : Int) == 46) = true := beq_iff_eq.2 (by have := congrArg UInt8.toNat q.1; exact_mod_cast this)
            rw [p1] at this; cases this) hdot.out)
          clear hdot
          go_wp2
          go_round
          case rel => exact ⟨k + 1, by omega, by go_num, HN⟩
          case measure => simp [intOf]; omega
        · have p3 : ((s[k].toNat : Int) != 46) = false := by unfold bne; rw [p1]; rfl
          cases p2 : ((s[k + 1].toNat : Int) == 46)
          · have p4 : ((s[k + 1].toNat : Int) != 46) = true := by unfold bne; rw [p2]; rfl
            have HN := Lib.hid (dot_step (l := s.data.toList) (k := k) (by simpa [← ByteArray.size_data] using hlk) (fun q => by
              have : ((s[k + 1].toNat : Int) == 46) = true := beq_iff_eq.2 (by have := congrArg UInt8.toNat q.2; exact_mod_cast this)
              rw [p2] at this; cases this) hdot.out)
            clear hdot
            go_wp2
            go_round
            case rel => exact ⟨k + 1, by omega, by go_num, HN⟩
            case measure => simp [intOf]; omega
          have p4 : ((s[k + 1].toNat : Int) != 46) = false := by unfold bne; rw [p2]; rfl
          have hn : dotS s = k := dot_here (l := s.data.toList) (by simpa [← ByteArray.size_data] using hlk) ⟨UInt8.toNat_inj.1 (by have := beq_iff_eq.1 p1; exact_mod_cast this), UInt8.toNat_inj.1 (by have := beq_iff_eq.1 p2; exact_mod_cast this)⟩ hdot.out
          have e1 := HE1.out.trans (show loS s = s.extract 0 k by unfold loS; rw [hn])
          have e2 := HE2.out.trans (show hiS s = s.extract (k + 2) s.size by unfold hiS; rw [hn])
          subst e1
          subst e2
          have bb := Below.refl W1.heap.size W1
          have H1 := Lib.hid (fun X (h : Below W1.heap.size W1 X) => callB9 h1.out h)
          have hk2 : (k : Int) + 2 ≤ (s.size : Int) := by omega
          clear h1 hdot HE1 HE2 hn a0
          go_upto_region 7 with (go_at_call 62; ((with_reducible refine (H1.out _ bb).mono ?_); rintro z w2 ⟨rfl, hk9⟩))
          obtain ⟨g6, g7, g8⟩ := end_new w2 i1 d1 _ rfl
          have hX := hk9.trans (g8.mono hk9.size)
          generalize (w2.alloc (Obj.cells #[Value.int IntKind.i8 i1, Value.int IntKind.i64 d1] 24)) = W3 at *
          have hg : W1.heap.size ≤ w2.heap.size := hk9.size
          generalize w2.heap.size = g at *
          clear hk9 g8 H1 bb
          have H2 := Lib.hid (fun X (h : Below W3.heap.size W3 X) => callB9 h2.out h)
          clear h2
          go_upto_region 8 with (go_at_call 62; ((with_reducible refine (H2.out _ (Below.refl _ _)).mono ?_); rintro z w4 ⟨rfl, hk9⟩))
          obtain ⟨j6, j7, j8⟩ := end_new w4 j1 d2 _ rfl
          have hY := hk9.trans (j8.mono hk9.size)
          generalize (w4.alloc (Obj.cells #[Value.int IntKind.i8 j1, Value.int IntKind.i64 d2] 24)) = W5 at *
          generalize w4.heap.size = h at *
          have g9 := g6.below g7 hY
          have hB := hX.trans (hY.mono (by omega))
          clear hk9 j8 g6 g7 hX hY H2
          obtain ⟨o0, o1⟩ := g9.duo
          obtain ⟨p0, p1'⟩ := j6.duo
          go_upto_region 13 with fail
          obtain ⟨q6, q7, q8⟩ := run_new W5 i1 d1 j1 d2 _ rfl
          have hC := hB.trans (q8.mono hB.size)
          have hlt5 : W5.heap.size < (W5.alloc (Obj.cells #[Value.int IntKind.i8 i1, Value.int IntKind.i64 d1, Value.int IntKind.i8 j1, Value.int IntKind.i64 d2] 26)).heap.size := by rw [q7]; omega
          generalize (W5.alloc (Obj.cells #[Value.int IntKind.i8 i1, Value.int IntKind.i64 d1, Value.int IntKind.i8 j1, Value.int IntKind.i64 d2] 26)) = W6 at *
          clear hB q7 q8 o0 o1 p0 p1' g9 j6 j7
          generalize W5.heap.size = g5 at *
          obtain ⟨k0, k1, k2, k3⟩ := id q6.quad
          have hX := Below.refl W6.heap.size W6
          have H3 := Lib.hid (fun X (h : Below W6.heap.size W6 X) => callB9 h3.out h)
          clear h3
          go_wp2_with (go_at_call 7; ((with_reducible refine (H3.out _ hX).mono ?_); rintro z w7 ⟨rfl, hk9⟩; (try clear hX); have hX := hk9; (try clear m0 m1 m2 m3 z0 z1 z2 z3 y0 y1 y2 y3 HZ HB); obtain ⟨m0, m1, m2, m3⟩ := (q6.below hlt5 hk9).quad; have HZ := Lib.hid (hZ.below hlt (hC.trans (hk9.mono hC.size))); obtain ⟨z0, z1, z2, z3⟩ := HZ.out.quad; have y0 := HZ.out.frozen 0; have y1 := HZ.out.frozen 1; have y2 := HZ.out.frozen 2; have y3 := HZ.out.frozen 3; have HB := Lib.hid (hb.trans ((hC.trans (hk9.mono hC.size)).mono (by omega))); clear hk9))
          exact bodyPost_ret (res_run2 rfl rfl rfl (HZ.out.store i1 d1 j1 d2).quad) rfl ⟨rfl, set4_below HB.out (by omega) i1 d1 j1 d2⟩
      · have hn : dotS s = k := dot_end (l := s.data.toList) (by simpa [← ByteArray.size_data] using hlk) hdot.out
        exact absurd (by rw [hn] at a0; exact a0) hlk
end Go.Proofs.YtmbaohjekeiphaaGreatDoor
