/- Runs as whole numbers: right ones, their days, whether they touch, what they make together, their order, length and shift. No program is in it. -/
import Derived.Test.YtmbaohjekeiphaaDoorEnds1
import Derived.Test.YtmbaohjekeiphaaDoorQAll
namespace Go.Proofs.YtmbaohjekeiphaaDoor

instance (n : Int) : Decidable (I64 n) := inferInstanceAs (Decidable (_ ∧ _))
/-- A run: its lower end, its upper end. -/
structure Ru where
  i : Int
  d : Int
  j : Int
  e : Int
theorem Ru.eq {r s : Ru} (h1 : r.i = s.i) (h2 : r.d = s.d) (h3 : r.j = s.j) (h4 : r.e = s.e) : r = s := by
  cases r; cases s; simp_all
/-- The zero run. -/
def ru0 : Ru := ⟨0, 0, 0, 0⟩
def Ru.In (r : Ru) : Prop := I8 r.i ∧ I64 r.d ∧ I8 r.j ∧ I64 r.e
/-- The error of a run. -/
def ruE (r : Ru) : Int := if enE r.i r.d = 0 ∧ enE r.j r.e = 0 then (if r.i = 1 ∨ r.j = -1 then 4 else if enC r.i r.d r.j r.e = 1 then 12 else 0) else 5
/-- Whether a right run has a day. -/
def ruH (r : Ru) (n : Int) : Bool := (r.i == -1 || decide (r.d ≤ n)) && (r.j == 1 || decide (n ≤ r.e))
def ruBeg (r s : Ru) : Bool := if s.i = -1 then r.i == -1 else ruH r s.d
def ruOv (r s : Ru) : Bool := ruBeg r s || ruBeg s r
def ruAd (r s : Ru) : Bool := r.j == 0 && (s.i == 0 && (decide (r.e < 9223372036854775807) && r.e + 1 == s.d))
def ruTo (r s : Ru) : Bool := ruOv r s || (ruAd r s || ruAd s r)
/-- The lower one of two lower ends with the higher one of two upper ends; and the other way round. -/
def ruJ (a b : Ru) : Ru := ⟨if enC b.i b.d a.i a.d < 0 then b.i else a.i, if enC b.i b.d a.i a.d < 0 then b.d else a.d, if 0 < enC b.j b.e a.j a.e then b.j else a.j, if 0 < enC b.j b.e a.j a.e then b.e else a.e⟩
def ruK (a b : Ru) : Ru := ⟨if 0 < enC b.i b.d a.i a.d then b.i else a.i, if 0 < enC b.i b.d a.i a.d then b.d else a.d, if enC b.j b.e a.j a.e < 0 then b.j else a.j, if enC b.j b.e a.j a.e < 0 then b.e else a.e⟩
def ruEq (a b : Ru) : Bool := (a.i == b.i && a.d == b.d) && (a.j == b.j && a.e == b.e)
def ruW (a b : Ru) : Bool := ruOv a b && ruEq (ruJ a b) b
def ruC (a b : Ru) : Int := if a.i = b.i ∧ a.d = b.d then enC a.j a.e b.j b.e else enC a.i a.d b.i b.d
/-- The length, and its error. -/
def ruLE (r : Ru) : Int := if r.i = 0 ∧ r.j = 0 then (if I64 (r.e - r.d + 1) then 0 else 15) else 16
def ruL (r : Ru) : Int := if ruLE r = 0 then r.e - r.d + 1 else 0
/-- The shift, and its error. -/
def mvV (i d k : Int) : Int := if i = 0 then d + k else d
def ruSE (r : Ru) (k : Int) : Int := if (r.i = 0 → I64 (r.d + k)) ∧ (r.j = 0 → I64 (r.e + k)) then 0 else 15
def ruS (r : Ru) (k : Int) : Ru := if ruSE r k = 0 then ⟨r.i, mvV r.i r.d k, r.j, mvV r.j r.e k⟩ else ru0

/-- The forms of a right run. -/
inductive Right : Ru → Prop
  | days (d e : Int) (h : d ≤ e) : Right ⟨0, d, 0, e⟩
  | up (d : Int) : Right ⟨0, d, 1, 0⟩
  | down (e : Int) : Right ⟨-1, 0, 0, e⟩
  | all : Right ⟨-1, 0, 1, 0⟩
theorem right_of {r : Ru} (h : ruE r = 0) : Right r := by
  obtain ⟨i, d, j, e⟩ := r
  simp only [ruE] at h
  split at h
  · rename_i hh
    split at h
    · exact absurd h (by decide)
    · rename_i h1
      split at h
      · exact absurd h (by decide)
      · rename_i h2
        rcases enE_cases i d with ⟨_, rfl⟩ | ⟨_, rfl, rfl⟩ | ⟨_, rfl, rfl⟩ | ⟨e1, -⟩
        · rcases enE_cases j e with ⟨_, rfl⟩ | ⟨_, rfl, rfl⟩ | ⟨_, rfl, rfl⟩ | ⟨e1, -⟩
          · refine .days d e ?_
            unfold enC at h2
            by_cases hde : e < d
            · exfalso
              apply h2
              have : ¬ d < e := by omega
              simp [this, hde]
            · omega
          · exact .up d
          · exact absurd (.inr rfl) h1
          · rw [e1] at hh; exact absurd hh.2 (by decide)
        · exact absurd (.inl rfl) h1
        · rcases enE_cases j e with ⟨_, rfl⟩ | ⟨_, rfl, rfl⟩ | ⟨_, rfl, rfl⟩ | ⟨e1, -⟩
          · exact .down e
          · exact .all
          · exact absurd (.inr rfl) h1
          · rw [e1] at hh; exact absurd hh.2 (by decide)
        · rw [e1] at hh; exact absurd hh.1 (by decide)
  · exact absurd h (by decide)
theorem Right.of {r : Ru} (h : Right r) : ruE r = 0 := by
  cases h with
  | days d e h => unfold ruE enE enC; simp only [if_true]; split <;> (try split) <;> (try split) <;> simp_all <;> omega
  | up d => rfl
  | down e => rfl
  | all => rfl
end Go.Proofs.YtmbaohjekeiphaaDoor
/- Runs as whole numbers: what touches, what is made together, what is in common, day by day. No program is in it. -/
namespace Go.Proofs.YtmbaohjekeiphaaDoor

theorem enC_lt (i d j e : Int) : enC i d j e < 0 ↔ (i < j ∨ (i = j ∧ d < e)) := by
  unfold enC
  by_cases h1 : i < j
  · simp [h1]
  · by_cases h2 : j < i
    · simp [h1, h2]; omega
    · by_cases h3 : d < e
      · simp [h1, h2, h3]; omega
      · by_cases h4 : e < d <;> simp [h1, h2, h3, h4]
theorem enC_gt (i d j e : Int) : 0 < enC i d j e ↔ (j < i ∨ (i = j ∧ e < d)) := by
  unfold enC
  by_cases h1 : i < j
  · simp [h1]; omega
  · by_cases h2 : j < i
    · simp [h1, h2]
    · by_cases h3 : d < e
      · simp [h1, h2, h3]; omega
      · by_cases h4 : e < d
        · simp [h1, h2, h3, h4]; omega
        · simp [h1, h2, h3, h4]
theorem enC_anti (i d j e : Int) : enC j e i d = -enC i d j e := by
  unfold enC
  by_cases h1 : i < j
  · have : ¬ j < i := by omega
    simp [h1, this]
  · by_cases h2 : j < i
    · simp [h1, h2]
    · by_cases h3 : d < e
      · have : ¬ e < d := by omega
        simp [h1, h2, h3, this]
      · by_cases h4 : e < d <;> simp [h1, h2, h3, h4]
theorem ruC_anti (a b : Ru) : ruC b a = -ruC a b := by
  unfold ruC
  by_cases h : a.i = b.i ∧ a.d = b.d
  · rw [if_pos h, if_pos ⟨h.1.symm, h.2.symm⟩, enC_anti]
  · rw [if_neg h, if_neg (fun q => h ⟨q.1.symm, q.2.symm⟩), enC_anti]
theorem ruC_small (a b : Ru) : -1 ≤ ruC a b ∧ ruC a b ≤ 1 := by
  have : ∀ i d j e, -1 ≤ enC i d j e ∧ enC i d j e ≤ 1 := fun i d j e => by
    unfold enC
    split
    · omega
    · split
      · omega
      · split
        · omega
        · split <;> omega
  unfold ruC
  split <;> exact this _ _ _ _
theorem ruE_small (a : Ru) : 0 ≤ ruE a ∧ ruE a ≤ 12 := by
  unfold ruE
  split
  · split
    · omega
    · split <;> omega
  · omega
theorem ruTo_comm (a b : Ru) : ruTo a b = ruTo b a := by
  unfold ruTo ruOv
  cases ruBeg a b <;> cases ruBeg b a <;> cases ruAd a b <;> cases ruAd b a <;> rfl
theorem ruOv_comm (a b : Ru) : ruOv a b = ruOv b a := by
  unfold ruOv
  cases ruBeg a b <;> cases ruBeg b a <;> rfl
theorem ruJ_comm (a b : Ru) : ruJ a b = ruJ b a := by
  obtain ⟨i, d, j, e⟩ := a
  obtain ⟨k, f, l, g⟩ := b
  unfold ruJ
  simp only [enC_lt, enC_gt]
  apply Ru.eq
  all_goals
    dsimp only
    split <;> split <;> omega
theorem ruK_comm (a b : Ru) : ruK a b = ruK b a := by
  obtain ⟨i, d, j, e⟩ := a
  obtain ⟨k, f, l, g⟩ := b
  unfold ruK
  simp only [enC_lt, enC_gt]
  apply Ru.eq
  all_goals
    dsimp only
    split <;> split <;> omega
theorem joi_in {a b : Ru} (ha : a.In) (hb : b.In) : (ruJ a b).In := by
  obtain ⟨a1, a2, a3, a4⟩ := ha
  obtain ⟨b1, b2, b3, b4⟩ := hb
  unfold ruJ
  refine ⟨?_, ?_, ?_, ?_⟩ <;> dsimp only <;> split <;> assumption
theorem com_in {a b : Ru} (ha : a.In) (hb : b.In) : (ruK a b).In := by
  obtain ⟨a1, a2, a3, a4⟩ := ha
  obtain ⟨b1, b2, b3, b4⟩ := hb
  unfold ruK
  refine ⟨?_, ?_, ?_, ?_⟩ <;> dsimp only <;> split <;> assumption
theorem ruH_iff (r : Ru) (n : Int) : ruH r n = true ↔ (r.i = -1 ∨ r.d ≤ n) ∧ (r.j = 1 ∨ n ≤ r.e) := by
  unfold ruH
  simp
theorem ruBeg_iff (r s : Ru) : ruBeg r s = true ↔ (s.i = -1 ∧ r.i = -1) ∨ (¬ s.i = -1 ∧ (r.i = -1 ∨ r.d ≤ s.d) ∧ (r.j = 1 ∨ s.d ≤ r.e)) := by
  unfold ruBeg
  by_cases h : s.i = -1
  · rw [if_pos h]; simp [h]
  · rw [if_neg h, ruH_iff]; simp [h]
theorem ruOv_iff (r s : Ru) : ruOv r s = true ↔ (ruBeg r s = true ∨ ruBeg s r = true) := by
  unfold ruOv; simp
theorem ruAd_iff (r s : Ru) : ruAd r s = true ↔ r.j = 0 ∧ s.i = 0 ∧ r.e < 9223372036854775807 ∧ r.e + 1 = s.d := by
  unfold ruAd; simp
theorem ruTo_iff (r s : Ru) : ruTo r s = true ↔ (ruOv r s = true ∨ ruAd r s = true ∨ ruAd s r = true) := by
  unfold ruTo; simp
theorem ruE_right {r : Ru} (h : ruE r = 0) : (r.i = 0 ∨ (r.i = -1 ∧ r.d = 0)) ∧ (r.j = 0 ∨ (r.j = 1 ∧ r.e = 0)) ∧ (r.i = 0 → r.j = 0 → r.d ≤ r.e) := by
  cases right_of h with
  | days d e h' => exact ⟨.inl rfl, .inl rfl, fun _ _ => h'⟩
  | up d => exact ⟨.inl rfl, .inr ⟨rfl, rfl⟩, fun _ h => by simp at h⟩
  | down e => exact ⟨.inr ⟨rfl, rfl⟩, .inl rfl, fun h => by simp at h⟩
  | all => exact ⟨.inr ⟨rfl, rfl⟩, .inr ⟨rfl, rfl⟩, fun h => by simp at h⟩
theorem right_ru {r : Ru} (h1 : r.i = 0 ∨ (r.i = -1 ∧ r.d = 0)) (h2 : r.j = 0 ∨ (r.j = 1 ∧ r.e = 0)) (h3 : r.i = 0 → r.j = 0 → r.d ≤ r.e) : ruE r = 0 := by
  obtain ⟨i, d, j, e⟩ := r
  dsimp only at h1 h2 h3
  rcases h1 with rfl | ⟨rfl, rfl⟩ <;> rcases h2 with rfl | ⟨rfl, rfl⟩
  · exact (Right.days d e (h3 rfl rfl)).of
  · exact (Right.up d).of
  · exact (Right.down e).of
  · exact Right.all.of
/-- The run joined, and the run in common, are right, and have the days that they should have. -/
theorem joi_right {a b : Ru} (ha : ruE a = 0) (hb : ruE b = 0) (_ : ruTo a b = true) : ruE (ruJ a b) = 0 := by
  have a1 := ruE_right ha
  have b1 := ruE_right hb
  apply right_ru
  all_goals
    unfold ruJ
    simp only [enC_lt, enC_gt]
    split <;> (try split) <;> omega
theorem joi_has {a b : Ru} (ha : ruE a = 0) (hb : ruE b = 0) (h : ruTo a b = true) (n : Int) : ruH (ruJ a b) n = (ruH a n || ruH b n) := by
  have a1 := ruE_right ha
  have b1 := ruE_right hb
  rw [ruTo_iff, ruOv_iff, ruBeg_iff, ruBeg_iff, ruAd_iff, ruAd_iff] at h
  rw [Bool.eq_iff_iff, Bool.or_eq_true, ruH_iff, ruH_iff, ruH_iff]
  unfold ruJ
  simp only [enC_lt, enC_gt]
  split <;> split <;> omega
theorem com_right {a b : Ru} (ha : ruE a = 0) (hb : ruE b = 0) (h : ruOv a b = true) : ruE (ruK a b) = 0 := by
  have a1 := ruE_right ha
  have b1 := ruE_right hb
  rw [ruOv_iff, ruBeg_iff, ruBeg_iff] at h
  apply right_ru
  all_goals
    unfold ruK
    simp only [enC_lt, enC_gt]
    split <;> (try split) <;> omega
theorem com_has {a b : Ru} (ha : ruE a = 0) (hb : ruE b = 0) (n : Int) : ruH (ruK a b) n = (ruH a n && ruH b n) := by
  have a1 := ruE_right ha
  have b1 := ruE_right hb
  rw [Bool.eq_iff_iff, Bool.and_eq_true, ruH_iff, ruH_iff, ruH_iff]
  unfold ruK
  simp only [enC_lt, enC_gt]
  split <;> split <;> omega
theorem com_none {a b : Ru} (ha : ruE a = 0) (hb : ruE b = 0) (h : ruOv a b = false) (n : Int) : (ruH a n && ruH b n) = false := by
  have a1 := ruE_right ha
  have b1 := ruE_right hb
  have h' : ¬ ruOv a b = true := by rw [h]; decide
  rw [ruOv_iff, ruBeg_iff, ruBeg_iff] at h'
  rw [Bool.eq_false_iff]
  intro q
  rw [Bool.and_eq_true, ruH_iff, ruH_iff] at q
  apply h'
  omega
end Go.Proofs.YtmbaohjekeiphaaDoor
/- Runs in blocks of memory; the equality of runs. -/
namespace Go.Proofs.YtmbaohjekeiphaaDoor
open Go.RowKit

/-- A run as a value. -/
abbrev U4 (i d j e : Int) : Value := .agg #[.int .i8 i, .int .i64 d, .int .i8 j, .int .i64 e]
abbrev V4 (r : Ru) : Value := U4 r.i r.d r.j r.e
/-- A run in a block of its own. -/
def BkU (w : World) (g : Nat) (i d j e : Int) : Prop := w.heap[g]? = some (.cells #[.int .i8 i, .int .i64 d, .int .i8 j, .int .i64 e] 29 (0, 0))
def Quad (g : Nat) (i d j e : Int) (X : World) : Prop := X.cell? ⟨g, 0, none⟩ = some (.int .i8 i) ∧ X.cell? ⟨g, 1, none⟩ = some (.int .i64 d) ∧ X.cell? ⟨g, 2, none⟩ = some (.int .i8 j) ∧ X.cell? ⟨g, 3, none⟩ = some (.int .i64 e)
theorem BkU.quad {w : World} {g : Nat} {i d j e : Int} (h : BkU w g i d j e) : Quad g i d j e w := ⟨cell_of_row w g 0 _ _ _ h, cell_of_row w g 1 _ _ _ h, cell_of_row w g 2 _ _ _ h, cell_of_row w g 3 _ _ _ h⟩
theorem BkU.frozen {w : World} {g : Nat} {i d j e : Int} (h : BkU w g i d j e) (n : Nat) : w.frozen? ⟨g, n, none⟩ = false := frozen_of_row w g n _ _ h
theorem BkU.below {w w' : World} {g B : Nat} {i d j e : Int} (h : BkU w g i d j e) (hg : g < B) (hb : Below B w w') : BkU w' g i d j e := (hb.block g hg).trans h
def set4 (X : World) (g : Nat) (i d j e : Int) : World := (((X.setCell ⟨g, 0, none⟩ (.int .i8 i)).setCell ⟨g, 1, none⟩ (.int .i64 d)).setCell ⟨g, 2, none⟩ (.int .i8 j)).setCell ⟨g, 3, none⟩ (.int .i64 e)
theorem BkU.store {w : World} {g : Nat} {i d j e : Int} (h : BkU w g i d j e) (i' d' j' e' : Int) : BkU (set4 w g i' d' j' e') g i' d' j' e' :=
  heap_setCell_same _ g 3 _ _ _ (heap_setCell_same _ g 2 _ _ _ (heap_setCell_same _ g 1 _ _ _ (heap_setCell_same w g 0 _ _ _ h)))
theorem BkU.lo {w : World} {g : Nat} {i d j e : Int} (h : BkU w g i d j e) (i' d' : Int) : BkU ((w.setCell ⟨g, 0, none⟩ (.int .i8 i')).setCell ⟨g, 1, none⟩ (.int .i64 d')) g i' d' j e :=
  heap_setCell_same _ g 1 _ _ _ (heap_setCell_same w g 0 _ _ _ h)
theorem BkU.hi {w : World} {g : Nat} {i d j e : Int} (h : BkU w g i d j e) (j' e' : Int) : BkU ((w.setCell ⟨g, 2, none⟩ (.int .i8 j')).setCell ⟨g, 3, none⟩ (.int .i64 e')) g i d j' e' :=
  heap_setCell_same _ g 3 _ _ _ (heap_setCell_same w g 2 _ _ _ h)
theorem run_new (w : World) (i d j e : Int) (W : World) (hW : W = w.alloc (.cells #[.int .i8 i, .int .i64 d, .int .i8 j, .int .i64 e] 29)) : BkU W w.heap.size i d j e ∧ W.heap.size = w.heap.size + 1 ∧ Below w.heap.size w W := by
  subst hW
  exact ⟨heap_alloc_new w _, by simp, by go_grown⟩
theorem run_two (w : World) (i d j e a b c f : Int) (W : World) (hW : W = (w.alloc (.cells #[.int .i8 i, .int .i64 d, .int .i8 j, .int .i64 e] 29)).alloc (.cells #[.int .i8 a, .int .i64 b, .int .i8 c, .int .i64 f] 29)) :
    BkU W w.heap.size i d j e ∧ BkU W (w.heap.size + 1) a b c f ∧ W.heap.size = w.heap.size + 1 + 1 ∧ Below w.heap.size w W := by
  obtain ⟨h1, h2, h3⟩ := run_new w i d j e _ rfl
  generalize (w.alloc (.cells #[.int .i8 i, .int .i64 d, .int .i8 j, .int .i64 e] 29)) = X at *
  obtain ⟨k1, k2, k3⟩ := run_new X a b c f W hW
  rw [h2] at k1 k2
  exact ⟨h1.below (by omega) k3, k1, k2, h3.trans (k3.mono (by omega))⟩
theorem run_three (w : World) (i d j e a b c f p q r s : Int) (W : World) (hW : W = ((w.alloc (.cells #[.int .i8 i, .int .i64 d, .int .i8 j, .int .i64 e] 29)).alloc (.cells #[.int .i8 a, .int .i64 b, .int .i8 c, .int .i64 f] 29)).alloc (.cells #[.int .i8 p, .int .i64 q, .int .i8 r, .int .i64 s] 29)) :
    BkU W w.heap.size i d j e ∧ BkU W (w.heap.size + 1) a b c f ∧ BkU W (w.heap.size + 1 + 1) p q r s ∧ W.heap.size = w.heap.size + 1 + 1 + 1 ∧ Below w.heap.size w W := by
  obtain ⟨h1, h2, h3, h4⟩ := run_two w i d j e a b c f _ rfl
  generalize ((w.alloc (.cells #[.int .i8 i, .int .i64 d, .int .i8 j, .int .i64 e] 29)).alloc (.cells #[.int .i8 a, .int .i64 b, .int .i8 c, .int .i64 f] 29)) = X at *
  obtain ⟨k1, k2, k3⟩ := run_new X p q r s W hW
  rw [h3] at k1 k2
  exact ⟨h1.below (by omega) k3, h2.below (by omega) k3, k1, k2, h4.trans (k3.mono (by omega))⟩
theorem set4_below {w X : World} {B : Nat} (h : Below B w X) {g : Nat} (hg : B ≤ g) (i d j e : Int) : Below B w (set4 X g i d j e) :=
  (((h.setCell (p := ⟨g, 0, none⟩) hg _).setCell (p := ⟨g, 1, none⟩) hg _).setCell (p := ⟨g, 2, none⟩) hg _).setCell (p := ⟨g, 3, none⟩) hg _
theorem res_run1 {fn : Func} {t : Tmp} {tmps : Array Value} {W : World} {g : Nat} {i d j e : Int} (h : fn.results = #[.cell t 29]) (ha : tmps[t]?.getD undef = .pointer (some ⟨g, 0, none⟩)) (hb : Quad g i d j e W) :
    (results fn tmps).run Tryd.prog W = .ok (U4 i d j e) W := by
  obtain ⟨q0, q1, q2, q3⟩ := hb
  simp [results, h, go_sem, ha, q0, q1, q2, q3]
theorem res_run2 {fn : Func} {t r : Tmp} {tmps : Array Value} {W : World} {g : Nat} {i d j e : Int} {z : Value} (h : fn.results = #[.cell t 29, .tmp r]) (ha : tmps[t]?.getD undef = .pointer (some ⟨g, 0, none⟩)) (hz : tmps[r]?.getD undef = z) (hb : Quad g i d j e W) :
    (results fn tmps).run Tryd.prog W = .ok (.tuple #[U4 i d j e, z]) W := by
  obtain ⟨q0, q1, q2, q3⟩ := hb
  simp [results, h, go_sem, ha, hz, q0, q1, q2, q3]

namespace run9
noncomputable def fR (i : Nat) : Field := (Tryd.prog.fieldsOf 29).toList.getD i default
theorem fieldsR : (Tryd.prog.fieldsOf 29).toList = [fR 0, fR 1] := by kernel_rfl
theorem fR0 : (fR 0).name = "Lo" ∧ (fR 0).type = 27 ∧ (fR 0).offset = 0 := ⟨by kernel_rfl, by kernel_rfl, by kernel_rfl⟩
theorem fR1 : (fR 1).name = "Hi" ∧ (fR 1).type = 27 ∧ (fR 1).offset = 2 := ⟨by kernel_rfl, by kernel_rfl, by kernel_rfl⟩
theorem aggE (w : World) : (isAgg 27).run Tryd.prog w = .ok true w := by kernel_rfl
theorem sizeE (w : World) : (sizeOf 27).run Tryd.prog w = .ok 2 w := by kernel_rfl
theorem partE0 (a b c d : Value) (w : World) : (part 27 #[a, b, c, d] 0).run Tryd.prog w = .ok (.agg #[a, b]) w := by
  simp [part, Sem.run_bind]
theorem partE2 (a b c d : Value) (w : World) : (part 27 #[a, b, c, d] 2).run Tryd.prog w = .ok (.agg #[c, d]) w := by
  simp [part, Sem.run_bind]
theorem eqR_any (k : Nat) (a b : Ru) (w : World) : (Op.equalIn (k + 3) 29 (V4 a) (V4 b)).run Tryd.prog w = .ok (ruEq a b) w := by
  rw [run_equalIn_struct w (k + 2) 29 _ _ (by kernel_rfl) (by kernel_rfl), fieldsR]
  have e := end8.eqI_any k
  unfold E2 at e
  unfold ruEq
  cases h1 : (a.i == b.i && a.d == b.d) <;> cases h2 : (a.j == b.j && a.e == b.e)
  all_goals
    simp only [Op.eqFields, fR0, fR1]
    simp [Sem.run_bind, Result.andThen_ok, partE0, partE2, e, h1, h2]
theorem eq_any (a b : Ru) (w : World) : (binOp .eql 29 (V4 a) (V4 b)).run Tryd.prog w = .ok (.bool (ruEq a b)) w := by
  rw [run_eql_struct, eqR_any 9997]; rfl
theorem ne_any (a b : Ru) (w : World) : (binOp .neq 29 (V4 a) (V4 b)).run Tryd.prog w = .ok (.bool (!ruEq a b)) w := by
  rw [run_neq_struct, eqR_any 9997]; rfl
theorem ruEq_self (a : Ru) : ruEq a a = true := by simp [ruEq]
theorem eq_self (a : Ru) (w : World) : (binOp .eql 29 (V4 a) (V4 a)).run Tryd.prog w = .ok (.bool true) w := by rw [eq_any, ruEq_self]
end run9
end Go.Proofs.YtmbaohjekeiphaaDoor
/- The reference of runs (circaref09): Check, Has, Overlap, Touch. -/
namespace Go.Proofs.YtmbaohjekeiphaaDoor
open Go.RowKit

theorem callB9 {f : FuncId} {args : Array Value} {v : Ending} {W X : World} (hc : ∀ X, Calls Tryd.prog f args X fun x w' => x = v ∧ Below X.heap.size X w') (h : Below W.heap.size W X) :
    Calls Tryd.prog f args X fun x w' => x = v ∧ Below W.heap.size W w' := (hc X).mono fun _ _ ⟨h1, h2⟩ => ⟨h1, h.trans (h2.mono h.size)⟩

theorem ruH_cases (i d j e n : Int) : ((i == -1) = true ∧ (j == 1) = true ∧ ruH ⟨i, d, j, e⟩ n = true) ∨ ((i == -1) = true ∧ (j == 1) = false ∧ n ≤ e ∧ ruH ⟨i, d, j, e⟩ n = true) ∨ ((i == -1) = true ∧ (j == 1) = false ∧ ¬ n ≤ e ∧ ruH ⟨i, d, j, e⟩ n = false) ∨
    ((i == -1) = false ∧ d ≤ n ∧ (j == 1) = true ∧ ruH ⟨i, d, j, e⟩ n = true) ∨ ((i == -1) = false ∧ d ≤ n ∧ (j == 1) = false ∧ n ≤ e ∧ ruH ⟨i, d, j, e⟩ n = true) ∨ ((i == -1) = false ∧ d ≤ n ∧ (j == 1) = false ∧ ¬ n ≤ e ∧ ruH ⟨i, d, j, e⟩ n = false) ∨ ((i == -1) = false ∧ ¬ d ≤ n ∧ ruH ⟨i, d, j, e⟩ n = false) := by
  unfold ruH
  by_cases a : i = -1 <;> by_cases b : j = 1 <;> by_cases c : n ≤ e <;> by_cases f : d ≤ n <;> simp [a, b, c, f]
theorem ruAd_cases (i d j e a b c f : Int) : ((j == 0) = false ∧ ruAd ⟨i, d, j, e⟩ ⟨a, b, c, f⟩ = false) ∨ ((j == 0) = true ∧ (a == 0) = false ∧ ruAd ⟨i, d, j, e⟩ ⟨a, b, c, f⟩ = false) ∨ ((j == 0) = true ∧ (a == 0) = true ∧ ¬ e < 9223372036854775807 ∧ ruAd ⟨i, d, j, e⟩ ⟨a, b, c, f⟩ = false) ∨
    ((j == 0) = true ∧ (a == 0) = true ∧ e < 9223372036854775807 ∧ ruAd ⟨i, d, j, e⟩ ⟨a, b, c, f⟩ = (e + 1 == b)) := by
  unfold ruAd
  cases h1 : (j == 0) <;> cases h2 : (a == 0) <;> by_cases h3 : e < 9223372036854775807 <;> simp [h3]
end Go.Proofs.YtmbaohjekeiphaaDoor
/- The reference of runs (circaref09): Check, Compare, Join, Common, Within. -/
namespace Go.Proofs.YtmbaohjekeiphaaDoor
open Go.RowKit

theorem enE_two (i d : Int) : enE i d = 0 ∨ enE i d = 5 := by
  rcases enE_cases i d with ⟨h, -⟩ | ⟨h, -⟩ | ⟨h, -⟩ | ⟨h, -⟩ <;> simp [h]
theorem ruE_cases (i d j e : Int) : (enE i d = 5 ∧ ruE ⟨i, d, j, e⟩ = 5) ∨ (enE i d = 0 ∧ enE j e = 5 ∧ ruE ⟨i, d, j, e⟩ = 5) ∨ (enE i d = 0 ∧ enE j e = 0 ∧ (i == 1) = true ∧ ruE ⟨i, d, j, e⟩ = 4) ∨
    (enE i d = 0 ∧ enE j e = 0 ∧ (i == 1) = false ∧ (j == -1) = true ∧ ruE ⟨i, d, j, e⟩ = 4) ∨ (enE i d = 0 ∧ enE j e = 0 ∧ (i == 1) = false ∧ (j == -1) = false ∧ (enC i d j e == 1) = true ∧ ruE ⟨i, d, j, e⟩ = 12) ∨
    (enE i d = 0 ∧ enE j e = 0 ∧ (i == 1) = false ∧ (j == -1) = false ∧ (enC i d j e == 1) = false ∧ ruE ⟨i, d, j, e⟩ = 0) := by
  unfold ruE
  rcases enE_two i d with h1 | h1 <;> rcases enE_two j e with h2 | h2
  · by_cases h3 : i = 1
    · subst h3; simp [h1, h2]
    · by_cases h4 : j = -1
      · subst h4; simp [h1, h2, h3]
      · by_cases h5 : enC i d j e = 1 <;> simp [h1, h2, h3, h4, h5]
  · simp [h1, h2]
  · simp [h1]
  · simp [h1]

set_option maxRecDepth 100000 in
theorem chkU_any (i d j e : Int) (w : World) :
    Calls Tryd.prog 13 #[U4 i d j e] w fun x w' => x = .returned (.int .i64 (ruE ⟨i, d, j, e⟩)) ∧ Below w.heap.size w w' := by
  have h1 := fun X => chkE_any i d X
  have h2 := fun X => chkE_any j e X
  have h3 := fun X => cmpE_any i d j e X
  rcases ruE_cases i d j e with ⟨a1, q⟩ | ⟨a1, a2, q⟩ | ⟨a1, a2, a3, q⟩ | ⟨a1, a2, a3, a4, q⟩ | ⟨a1, a2, a3, a4, a5, q⟩ | ⟨a1, a2, a3, a4, a5, q⟩
  all_goals
    rw [a1] at h1
    rw [q]
    (try rw [a2] at h2)
    clear q a1
    (try clear a2)
    generalize enC i d j e = c at *
    go_enter Tryd.func13, Tryd.ntmps13
    go_upto_region 1 with fail
    obtain ⟨hK, hs, hb⟩ := run_new w i d j e _ rfl
    generalize (w.alloc (Obj.cells #[Value.int IntKind.i8 i, Value.int IntKind.i64 d, Value.int IntKind.i8 j, Value.int IntKind.i64 e] 29)) = W1 at *
    obtain ⟨k0, k1, k2, k3⟩ := id hK.quad
    have hX := Below.refl W1.heap.size W1
    have H1 := Lib.hid (fun X (h : Below W1.heap.size W1 X) => callB9 h1 h)
    have H2 := Lib.hid (fun X (h : Below W1.heap.size W1 X) => callB9 h2 h)
    have H3 := Lib.hid (fun X (h : Below W1.heap.size W1 X) => callB9 h3 h)
    clear h1 h2 h3
    go_wp2_with (first
      | (go_at_call 31; ((with_reducible refine (H1.out _ hX).mono ?_); rintro z w2 ⟨rfl, hk⟩; (try clear hX); have hX := hk; (try clear m0 m1 m2 m3); obtain ⟨m0, m1, m2, m3⟩ := (hK.below (by omega) hk).quad; clear hk))
      | (go_at_call 31; ((with_reducible refine (H2.out _ hX).mono ?_); rintro z w2 ⟨rfl, hk⟩; (try clear hX); have hX := hk; (try clear m0 m1 m2 m3); obtain ⟨m0, m1, m2, m3⟩ := (hK.below (by omega) hk).quad; clear hk))
      | (go_at_call 32; ((with_reducible refine (H3.out _ hX).mono ?_); rintro z w2 ⟨rfl, hk⟩; (try clear hX); have hX := hk; (try clear m0 m1 m2 m3); obtain ⟨m0, m1, m2, m3⟩ := (hK.below (by omega) hk).quad; clear hk)))
    go_ret
    exact ⟨rfl, hb.trans (hX.mono (by omega))⟩

theorem ruC_cases (i d j e a b c f : Int) : (end8.eqE i d a b = true ∧ ruC ⟨i, d, j, e⟩ ⟨a, b, c, f⟩ = enC j e c f) ∨ (end8.eqE i d a b = false ∧ ruC ⟨i, d, j, e⟩ ⟨a, b, c, f⟩ = enC i d a b) := by
  unfold ruC end8.eqE
  by_cases h1 : i = a <;> by_cases h2 : d = b <;> simp [h1, h2]
end Go.Proofs.YtmbaohjekeiphaaDoor
/- The reference of runs (circaref09): Join, Common, Within. -/
namespace Go.Proofs.YtmbaohjekeiphaaDoor
open Go.RowKit

theorem lt_of_heap9 {X : World} {r : Nat} {o : Obj} (h : X.heap[r]? = some o) : r < X.heap.size := by
  rcases Nat.lt_or_ge r X.heap.size with h' | h'
  · exact h'
  · simp [Array.getElem?_eq_none h'] at h
theorem setH_below {w X : World} {B : Nat} (h : Below B w X) {g : Nat} (hg : B ≤ g) (x y : Int) : Below B w ((X.setCell ⟨g, 2, none⟩ (.int .i8 x)).setCell ⟨g, 3, none⟩ (.int .i64 y)) :=
  (h.setCell (p := ⟨g, 2, none⟩) hg _).setCell (p := ⟨g, 3, none⟩) hg _

end Go.Proofs.YtmbaohjekeiphaaDoor
/- The reference of runs (circaref09): Within, end, Shift, Len. -/
namespace Go.Proofs.YtmbaohjekeiphaaDoor
open Go.RowKit

theorem lim_two : 1180591620717411303424 < lim := by unfold lim; decide
/-- An end that is moved. -/
def mvD (i d k : Int) : Int := if i = 0 then fitV (d + k) else d
def mvB (i d k : Int) : Bool := if i = 0 then fitsB (d + k) else true
end Go.Proofs.YtmbaohjekeiphaaDoor
/- The reference of runs (circaref09): Shift, Len, Text. -/
namespace Go.Proofs.YtmbaohjekeiphaaDoor
open Go.RowKit

theorem fitsB_iff (z : Int) : fitsB z = decide (I64 z) := rfl
theorem mvB_iff (i d k : Int) : mvB i d k = true ↔ (i = 0 → I64 (d + k)) := by
  unfold mvB
  by_cases h : i = 0
  · rw [if_pos h, fitsB_iff, decide_eq_true_eq]; exact ⟨fun q _ => q, fun q => q h⟩
  · rw [if_neg h]; exact ⟨fun _ q => absurd q h, fun _ => rfl⟩
theorem mvD_fit {i d k : Int} (h : mvB i d k = true) : mvD i d k = mvV i d k := by
  unfold mvD mvV
  by_cases hi : i = 0
  · have := (mvB_iff i d k).1 h hi
    rw [if_pos hi, if_pos hi]; exact fitV_in this.1 this.2
  · rw [if_neg hi, if_neg hi]
theorem ruS_cases (i d j e k : Int) : (mvB i d k = true ∧ mvB j e k = true ∧ ruSE ⟨i, d, j, e⟩ k = 0 ∧ ruS ⟨i, d, j, e⟩ k = ⟨i, mvD i d k, j, mvD j e k⟩) ∨ (mvB i d k = false ∧ ruSE ⟨i, d, j, e⟩ k = 15 ∧ ruS ⟨i, d, j, e⟩ k = ru0) ∨
    (mvB i d k = true ∧ mvB j e k = false ∧ ruSE ⟨i, d, j, e⟩ k = 15 ∧ ruS ⟨i, d, j, e⟩ k = ru0) := by
  by_cases h1 : mvB i d k = true
  · by_cases h2 : mvB j e k = true
    · have q : ruSE ⟨i, d, j, e⟩ k = 0 := if_pos ⟨(mvB_iff i d k).1 h1, (mvB_iff j e k).1 h2⟩
      refine .inl ⟨h1, h2, q, ?_⟩
      unfold ruS
      rw [if_pos q, mvD_fit h1, mvD_fit h2]
    · have q : ruSE ⟨i, d, j, e⟩ k = 15 := if_neg (fun h => h2 ((mvB_iff j e k).2 h.2))
      exact .inr (.inr ⟨h1, by simpa using h2, q, if_neg (by rw [q]; decide)⟩)
  · have q : ruSE ⟨i, d, j, e⟩ k = 15 := if_neg (fun h => h1 ((mvB_iff i d k).2 h.1))
    exact .inr (.inl ⟨by simpa using h1, q, if_neg (by rw [q]; decide)⟩)
theorem ruL_cases (i d j e : Int) : ((i != 0) = true ∧ ruLE ⟨i, d, j, e⟩ = 16 ∧ ruL ⟨i, d, j, e⟩ = 0) ∨ ((i != 0) = false ∧ (j != 0) = true ∧ ruLE ⟨i, d, j, e⟩ = 16 ∧ ruL ⟨i, d, j, e⟩ = 0) ∨
    ((i != 0) = false ∧ (j != 0) = false ∧ fitsB (e + -d + 1) = true ∧ ruLE ⟨i, d, j, e⟩ = 0 ∧ ruL ⟨i, d, j, e⟩ = fitV (e + -d + 1)) ∨ ((i != 0) = false ∧ (j != 0) = false ∧ fitsB (e + -d + 1) = false ∧ ruLE ⟨i, d, j, e⟩ = 15 ∧ ruL ⟨i, d, j, e⟩ = 0) := by
  have e1 : e - d + 1 = e + -d + 1 := by omega
  unfold ruL ruLE
  rw [fitsB_iff]
  dsimp only
  rw [e1]
  by_cases h1 : i = 0
  · by_cases h2 : j = 0
    · by_cases h3 : I64 (e + -d + 1)
      · simp [h1, h2, h3, fitV_in h3.1 h3.2]
      · simp [h1, h2, h3]
    · simp [h1, h2]
  · simp [h1]
theorem enS_size (i d : Int) (hd : I64 d) : (enS i d).size ≤ 20 := by
  show (enL i d).toArray.size ≤ 20
  unfold enL
  split
  · show 4 ≤ 20; decide
  · split
    · show 3 ≤ 20; decide
    · exact itoa_len d hd.1 hd.2
/-- The text of a right run. -/
def ruT (r : Ru) : ByteArray := (enS r.i r.d ++ ⟨#[46, 46]⟩) ++ enS r.j r.e
set_option maxRecDepth 100000 in
theorem texU_any (i d j e : Int) (w : World) (hd : I64 d) (he : I64 e) :
    Calls Tryd.prog 15 #[U4 i d j e] w fun x w' => x = .returned (.string (ruT ⟨i, d, j, e⟩)) ∧ Below w.heap.size w w' := by
  have h1 := fun X => texE_any i d X hd
  have h2 := fun X => texE_any j e X he
  have z1 := enS_size i d hd
  have z2 := enS_size j e he
  unfold ruT
  dsimp only
  clear hd he
  generalize enS i d = s at *
  generalize enS j e = t at *
  have y1 : ¬ 9223372036854775807 < s.size + 2 := by omega
  have y2 : ¬ 9223372036854775807 < s.size + 2 + t.size := by omega
  have y3 : ¬ 9223372036854775807 < s.size + (⟨#[46, 46]⟩ : ByteArray).size := by show ¬ 9223372036854775807 < s.size + 2; omega
  have y4 : ¬ 9223372036854775807 < (s ++ ⟨#[46, 46]⟩ : ByteArray).size + t.size := by rw [ByteArray.size_append]; show ¬ 9223372036854775807 < s.size + 2 + t.size; omega
  clear z1 z2
  go_enter Tryd.func15, Tryd.ntmps15
  go_upto_region 1 with fail
  obtain ⟨hK, hs, hb⟩ := run_new w i d j e _ rfl
  generalize (w.alloc (Obj.cells #[Value.int IntKind.i8 i, Value.int IntKind.i64 d, Value.int IntKind.i8 j, Value.int IntKind.i64 e] 29)) = W1 at *
  obtain ⟨k0, k1, k2, k3⟩ := id hK.quad
  have hX : Below W1.heap.size W1 W1.drew := ⟨rfl, rfl, rfl, Nat.le_refl _, fun _ _ => rfl⟩
  have H1 := Lib.hid (fun X (h : Below W1.heap.size W1 X) => callB9 h1 h)
  have H2 := Lib.hid (fun X (h : Below W1.heap.size W1 X) => callB9 h2 h)
  clear h1 h2
  go_region_held3 (fun x => x.cell? ⟨w.heap.size, 0, none⟩ = some (.int .i8 i) ∧ x.cell? ⟨w.heap.size, 1, none⟩ = some (.int .i64 d) ∧ x.cell? ⟨w.heap.size, 2, none⟩ = some (.int .i8 j) ∧ x.cell? ⟨w.heap.size, 3, none⟩ = some (.int .i64 e)) (go_keep)
    (first
      | (go_at_call 37; ((with_reducible refine (H1.out _ hX).mono ?_); rintro z w2 ⟨rfl, hk⟩; (try clear hX); have hX := hk; (try clear m0 m1 m2 m3); obtain ⟨m0, m1, m2, m3⟩ := (hK.below (by omega) hk).quad; clear hk))
      | (go_at_call 37; ((with_reducible refine (H2.out _ hX).mono ?_); rintro z w2 ⟨rfl, hk⟩; (try clear hX); have hX := hk; (try clear m0 m1 m2 m3); obtain ⟨m0, m1, m2, m3⟩ := (hK.below (by omega) hk).quad; clear hk)))
  all_goals
    go_wp2_with fail
    go_ret
    exact ⟨rfl, hb.trans (hX.mono (by omega))⟩
end Go.Proofs.YtmbaohjekeiphaaDoor
/- The reference of runs (circaref09): Parse. -/
namespace Go.Proofs.YtmbaohjekeiphaaDoor
open Go.RowKit

/-- The place of the first two points that stand side by side. -/
def dotAt : List UInt8 → Nat
  | [] => 0
  | [_] => 0
  | a :: b :: r => if a = 46 ∧ b = 46 then 0 else dotAt (b :: r) + 1
def dotS (s : ByteArray) : Nat := dotAt s.data.toList
def loS (s : ByteArray) : ByteArray := s.extract 0 (dotS s)
def hiS (s : ByteArray) : ByteArray := s.extract (dotS s + 2) s.size
def prRun (s : ByteArray) : Ru := ⟨prI (loS s), prD (loS s), prI (hiS s), prD (hiS s)⟩
/-- What a text is the run of: the error, and the run. -/
def prRE (s : ByteArray) : Int := if dotS s + 1 < s.size then (if prE (loS s) = 5 ∨ prE (hiS s) = 5 then 5 else if prE (loS s) ≠ 0 ∨ prE (hiS s) ≠ 0 then 15 else ruE (prRun s)) else 5
def prR (s : ByteArray) : Ru := if prRE s = 0 then prRun s else ru0
theorem prE_three (s : ByteArray) : prE s = 0 ∨ prE s = 5 ∨ prE s = 15 := by
  rcases prE_cases s with ⟨-, q⟩ | ⟨-, -, q⟩ | ⟨-, -, -, q⟩ | ⟨-, -, -, -, q⟩ | ⟨-, -, -, -, q⟩
  · exact .inl q.2.2
  · exact .inl q.2.2
  · exact .inr (.inl q.2.2)
  · exact .inr (.inr q.2.2)
  · exact .inl q.2.2
theorem prR_cases (s : ByteArray) : (¬ dotS s + 1 < s.size ∧ prRE s = 5 ∧ prR s = ru0) ∨ (dotS s + 1 < s.size ∧ prE (loS s) = 5 ∧ prRE s = 5 ∧ prR s = ru0) ∨ (dotS s + 1 < s.size ∧ (prE (loS s) == 5) = false ∧ prE (hiS s) = 5 ∧ prRE s = 5 ∧ prR s = ru0) ∨
    (dotS s + 1 < s.size ∧ prE (loS s) = 15 ∧ (prE (hiS s) == 5) = false ∧ prRE s = 15 ∧ prR s = ru0) ∨ (dotS s + 1 < s.size ∧ prE (loS s) = 0 ∧ prE (hiS s) = 15 ∧ prRE s = 15 ∧ prR s = ru0) ∨
    (dotS s + 1 < s.size ∧ prE (loS s) = 0 ∧ prE (hiS s) = 0 ∧ (ruE (prRun s) != 0) = true ∧ prRE s = ruE (prRun s) ∧ prR s = ru0) ∨ (dotS s + 1 < s.size ∧ prE (loS s) = 0 ∧ prE (hiS s) = 0 ∧ ruE (prRun s) = 0 ∧ prRE s = 0 ∧ prR s = prRun s) := by
  unfold prR
  unfold prRE
  by_cases h : dotS s + 1 < s.size
  · rcases prE_three (loS s) with h1 | h1 | h1 <;> rcases prE_three (hiS s) with h2 | h2 | h2
    · by_cases h3 : ruE (prRun s) = 0
      · simp [h, h1, h2, h3]
      · simp [h, h1, h2, h3]
    all_goals simp [h, h1, h2]
  · simp [h]
theorem dot_step {l : List UInt8} {k : Nat} (h : k + 1 < l.length) (hn : ¬ (l[k] = 46 ∧ l[k + 1] = 46)) (hd : dotAt l = k + dotAt (l.drop k)) : dotAt l = (k + 1) + dotAt (l.drop (k + 1)) := by
  rw [hd, List.drop_eq_getElem_cons (by omega : k < l.length), List.drop_eq_getElem_cons h]
  show k + (if l[k] = 46 ∧ l[k + 1] = 46 then 0 else dotAt (l[k + 1] :: l.drop (k + 1 + 1)) + 1) = _
  rw [if_neg hn]
  omega
theorem dot_here {l : List UInt8} {k : Nat} (h : k + 1 < l.length) (hn : l[k] = 46 ∧ l[k + 1] = 46) (hd : dotAt l = k + dotAt (l.drop k)) : dotAt l = k := by
  rw [hd, List.drop_eq_getElem_cons (by omega : k < l.length), List.drop_eq_getElem_cons h]
  show k + (if l[k] = 46 ∧ l[k + 1] = 46 then 0 else dotAt (l[k + 1] :: l.drop (k + 1 + 1)) + 1) = _
  rw [if_pos hn]
  rfl
theorem dot_end {l : List UInt8} {k : Nat} (h : ¬ k + 1 < l.length) (hd : dotAt l = k + dotAt (l.drop k)) : dotAt l = k := by
  have : (l.drop k).length ≤ 1 := by rw [List.length_drop]; omega
  rw [hd]
  match hm : l.drop k, this with
  | [], _ => rfl
  | [_], _ => rfl
theorem dotAt_le : ∀ l : List UInt8, dotAt l ≤ l.length
  | [] => Nat.le_refl _
  | [_] => Nat.zero_le _
  | a :: b :: r => by
    unfold dotAt
    split
    · exact Nat.zero_le _
    · have := dotAt_le (b :: r)
      simp only [List.length_cons] at *
      omega
theorem loS_size (s : ByteArray) : (loS s).size ≤ s.size := by unfold loS; rw [ByteArray.size_extract]; omega
theorem hiS_size (s : ByteArray) : (hiS s).size ≤ s.size := by unfold hiS; rw [ByteArray.size_extract]; omega

end Go.Proofs.YtmbaohjekeiphaaDoor
