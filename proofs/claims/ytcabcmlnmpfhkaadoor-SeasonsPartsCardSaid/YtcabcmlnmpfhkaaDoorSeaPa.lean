/- The law on the parts of whatever year: the quarters, the thirds, the halves. -/
import Derived.Test.YtcabcmlnmpfhkaaDoorSeaRunL
namespace Go.Proofs.YtcabcmlnmpfhkaaDoor.sea
open Go.RowKit

theorem yr_in {y c : Int} (hc : isC c = true) (hy : yr y = true) (h : sF c + sN c - 1 ≤ 12) : sE y c = 0 := by
  unfold sE
  rw [if_pos hc, if_pos hy, if_neg (by rintro ⟨h1, _⟩; omega)]
theorem yr_in2 {y c : Int} (hc : isC c = true) (hy : yr y = true) (hy2 : yr (y + 1) = true) : sE y c = 0 := by
  unfold sE
  rw [if_pos hc, if_pos hy, if_neg (by rintro ⟨_, h2⟩; rw [hy2] at h2; cases h2)]
theorem rV_in {y c : Int} (h : sE y c = 0) (v : Int) : rV y c v = v := if_pos h
/-- How many months of the year lie ahead of a part of one of the three kinds. -/
def pD (i : Nat) (c : Int) : Nat := if i = 0 then 3 * (c - 33).toNat else if i = 1 then 4 * (c - 37).toNat else 6 * (c - 40).toNat
def fiL : List Int := [33, 37, 40]
def laL : List Int := [36, 39, 41]
theorem part_fact (i : Nat) (hi : i < 3) (c : Int) (h1 : fiL.getD i 0 ≤ c) (h2 : c ≤ laL.getD i 0) : isC c = true ∧ sF c - 1 = pD i c ∧ sF c - 1 + sN c = pD i (c + 1) ∧ sF c + sN c - 1 ≤ 12 ∧ pD i (c + 1) ≤ 12 ∧ 1 ≤ sF c := by
  have key : ∀ i : Fin 3, ∀ k : Fin 42, fiL.getD i 0 ≤ (k : Nat) → ((k : Nat) : Int) ≤ laL.getD i 0 → isC (k : Nat) = true ∧ sF (k : Nat) - 1 = pD i (k : Nat) ∧ sF (k : Nat) - 1 + sN (k : Nat) = pD i ((k : Nat) + 1) ∧ sF (k : Nat) + sN (k : Nat) - 1 ≤ 12 ∧ pD i ((k : Nat) + 1) ≤ 12 ∧ 1 ≤ sF (k : Nat) := by decide +kernel
  have hb : ∀ i : Fin 3, 33 ≤ fiL.getD i 0 ∧ laL.getD i 0 ≤ 41 := by decide
  obtain ⟨b1, b2⟩ := hb ⟨i, hi⟩
  have b1' : 33 ≤ fiL.getD i 0 := b1
  have b2' : laL.getD i 0 ≤ 41 := b2
  obtain ⟨k, rfl⟩ : ∃ k : Nat, c = k := ⟨c.toNat, by omega⟩
  exact key ⟨i, hi⟩ ⟨k, by omega⟩ h1 h2
theorem part_first (i : Nat) (hi : i < 3) : pD i (fiL.getD i 0) = 0 ∧ pD i (laL.getD i 0 + 1) = 12 ∧ fiL.getD i 0 ≤ laL.getD i 0 ∧ 33 ≤ fiL.getD i 0 ∧ laL.getD i 0 ≤ 41 := by
  have : ∀ i : Fin 3, pD i (fiL.getD i 0) = 0 ∧ pD i (laL.getD i 0 + 1) = 12 ∧ fiL.getD i 0 ≤ laL.getD i 0 ∧ 33 ≤ fiL.getD i 0 ∧ laL.getD i 0 ≤ 41 := by decide
  exact this ⟨i, hi⟩
/-- A part's days, by the months ahead of it. -/
theorem part_days {y : Int} (hy : yr y = true) {i : Nat} (hi : i < 3) {c : Int} (h1 : fiL.getD i 0 ≤ c) (h2 : c ≤ laL.getD i 0) :
    sE y c = 0 ∧ rV y c (sLo y c) = mst y (pD i c) ∧ rV y c (sHi y c) + 1 = mst y (pD i (c + 1)) := by
  obtain ⟨q1, q2, q3, q4, q5, q6⟩ := part_fact i hi c h1 h2
  have hE := yr_in q1 hy q4
  refine ⟨hE, ?_, ?_⟩
  · rw [rV_in hE]; unfold sLo; rw [q2, sm_le (by omega)]
  · rw [rV_in hE]; unfold sHi; rw [q3, sm_le (by omega)]; omega

def sqL : List (List Int) := [[21, 22, 23, 24], [25, 26, 27, 28], [31, 32, 29, 30]]
def sq (i k : Nat) : Int := (sqL.getD i []).getD k 0
theorem sq_fact (i k : Nat) (hi : i < 3) (hk : k < 4) : isC (sq i k) = true ∧ sF (sq i k) = 3 * k + 3 ∧ sN (sq i k) = 3 ∧ 21 ≤ sq i k ∧ sq i k ≤ 41 := by
  have : ∀ i : Fin 3, ∀ k : Fin 4, isC (sq i k) = true ∧ sF (sq i k) = 3 * k + 3 ∧ sN (sq i k) = 3 ∧ 21 ≤ sq i k ∧ sq i k ≤ 41 := by decide +kernel
  exact this ⟨i, hi⟩ ⟨k, hk⟩
theorem sq_days {y : Int} (hy : yr y = true) (hy2 : yr (y + 1) = true) (i k : Nat) (hi : i < 3) (hk : k < 4) :
    sE y (sq i k) = 0 ∧ rV y (sq i k) (sLo y (sq i k)) = sm y (3 * k + 2) ∧ rV y (sq i k) (sHi y (sq i k)) = sm y (3 * k + 5) - 1 := by
  obtain ⟨q1, q2, q3, _, _⟩ := sq_fact i k hi hk
  have hE := yr_in2 q1 hy hy2
  refine ⟨hE, ?_, ?_⟩
  · rw [rV_in hE]; unfold sLo; rw [q2]; congr 1
  · rw [rV_in hE]; unfold sHi; rw [q2, q3]; congr 2
theorem sq_next {y : Int} (hy2 : yr (y + 1) = true) (i : Nat) (hi : i < 3) :
    sE (y + 1) (sq i 0) = 0 ∧ rV (y + 1) (sq i 0) (sLo (y + 1) (sq i 0)) = sm y 14 := by
  obtain ⟨q1, q2, q3, _, _⟩ := sq_fact i 0 hi (by omega)
  have hE := yr_in q1 hy2 (by omega)
  refine ⟨hE, ?_⟩
  rw [rV_in hE]; unfold sLo; rw [q2, sm_le (by omega), sm_gt (by omega)]
theorem sm_bd {y : Int} (hy : -10000000000000000 ≤ y) (hy1 : y ≤ 10000000000000000) (j : Nat) (hj : j ≤ 14) : -4000000000000000000 ≤ sm y j ∧ sm y j ≤ 4000000000000000000 := by
  unfold sm
  split
  · have b1 := mst_lo y j
    have b2 := mst_hi y j
    have b3 := stI_bd y (by omega)
    omega
  · have b1 := mst_lo (y + 1) (j - 12)
    have b2 := mst_hi (y + 1) (j - 12)
    have b3 := stI_bd (y + 1) (by omega)
    have b4 : ((j - 12 : Nat) : Int) ≤ 2 := by omega
    omega
/-- The rows of seasons in memory. -/
structure RowS (X : World) (g : Nat) : Prop where
  size : g + 1 + 1 + 1 < X.heap.size
  row : ∀ i, i < 3 → X.cell? ⟨g + 1 + 1 + 1, i, none⟩ = some (.slice (some ⟨g + i, 0, none⟩) 4 4)
  code : ∀ i k, i < 3 → k < 4 → X.cell? ⟨g + i, k, none⟩ = some (.int .i64 (sq i k))
theorem RowS.below {X Y : World} {g : Nat} (h : RowS X g) (hb : Below X.heap.size X Y) : RowS Y g := by
  have hs := h.size
  exact ⟨Nat.lt_of_lt_of_le h.size hb.size, fun i hi => (hb.cell (p := ⟨g + 1 + 1 + 1, i, none⟩) h.size).trans (h.row i hi), fun i k hi hk => (hb.cell (p := ⟨g + i, k, none⟩) (by show g + i < _; omega)).trans (h.code i k hi hk)⟩
theorem RowS.far {X Y : World} {g n : Nat} (h : RowS X g) (hs : Y.heap.size = X.heap.size) (hn : g + 1 + 1 + 1 < n) (hY : ∀ p, p < n → Y.heap[p]? = X.heap[p]?) : RowS Y g :=
  ⟨by rw [hs]; exact h.size, fun i hi => (World.cell?_of_block (hY _ hn)).trans (h.row i hi), fun i k hi hk => (World.cell?_of_block (hY _ (by show g + i < n; omega))).trans (h.code i k hi hk)⟩
theorem row4_at (w : World) (a b c d : Value) (t : TypeId) (k : Nat) (hk : w.heap.size = k) : (w.alloc (.cells #[a, b, c, d] t)).cell? ⟨k, 0, none⟩ = some a ∧ (w.alloc (.cells #[a, b, c, d] t)).cell? ⟨k, 1, none⟩ = some b ∧ (w.alloc (.cells #[a, b, c, d] t)).cell? ⟨k, 2, none⟩ = some c ∧ (w.alloc (.cells #[a, b, c, d] t)).cell? ⟨k, 3, none⟩ = some d ∧ (w.alloc (.cells #[a, b, c, d] t)).heap.size = k + 1 ∧ Below k w (w.alloc (.cells #[a, b, c, d] t)) := by
  subst hk
  refine ⟨?_, ?_, ?_, ?_, by simp, by go_grown⟩
  · rw [cell_of_row _ _ 0 _ _ (0, 0) (heap_alloc_new w _)]; rfl
  · rw [cell_of_row _ _ 1 _ _ (0, 0) (heap_alloc_new w _)]; rfl
  · rw [cell_of_row _ _ 2 _ _ (0, 0) (heap_alloc_new w _)]; rfl
  · rw [cell_of_row _ _ 3 _ _ (0, 0) (heap_alloc_new w _)]; rfl
theorem row3v_at (w : World) (a b c : Value) (t : TypeId) (k : Nat) (hk : w.heap.size = k) : (w.alloc (.cells #[a, b, c] t)).cell? ⟨k, 0, none⟩ = some a ∧ (w.alloc (.cells #[a, b, c] t)).cell? ⟨k, 1, none⟩ = some b ∧ (w.alloc (.cells #[a, b, c] t)).cell? ⟨k, 2, none⟩ = some c ∧ (w.alloc (.cells #[a, b, c] t)).heap.size = k + 1 ∧ Below k w (w.alloc (.cells #[a, b, c] t)) := by
  subst hk
  refine ⟨?_, ?_, ?_, by simp, by go_grown⟩
  · rw [cell_of_row _ _ 0 _ _ (0, 0) (heap_alloc_new w _)]; rfl
  · rw [cell_of_row _ _ 1 _ _ (0, 0) (heap_alloc_new w _)]; rfl
  · rw [cell_of_row _ _ 2 _ _ (0, 0) (heap_alloc_new w _)]; rfl
theorem rowS_new (w X1 X2 X3 X4 : World) (t s : TypeId) (e1 : X1 = w.alloc (.cells #[.int .i64 21, .int .i64 22, .int .i64 23, .int .i64 24] t)) (e2 : X2 = X1.alloc (.cells #[.int .i64 25, .int .i64 26, .int .i64 27, .int .i64 28] t))
    (e3 : X3 = X2.alloc (.cells #[.int .i64 31, .int .i64 32, .int .i64 29, .int .i64 30] t)) (e4 : X4 = X3.alloc (.cells #[.slice (some ⟨w.heap.size, 0, none⟩) 4 4, .slice (some ⟨w.heap.size + 1, 0, none⟩) 4 4, .slice (some ⟨w.heap.size + 1 + 1, 0, none⟩) 4 4] s)) :
    RowS X4 w.heap.size ∧ Below w.heap.size w X4 := by
  obtain ⟨a0, a1, a2, a3, az, ab⟩ := row4_at w (.int .i64 21) (.int .i64 22) (.int .i64 23) (.int .i64 24) t _ rfl
  rw [← e1] at a0 a1 a2 a3 az ab
  obtain ⟨b0, b1, b2, b3, bs, bb⟩ := row4_at X1 (.int .i64 25) (.int .i64 26) (.int .i64 27) (.int .i64 28) t _ az
  rw [← e2] at b0 b1 b2 b3 bs bb
  obtain ⟨c0, c1, c2, c3, cs, cb⟩ := row4_at X2 (.int .i64 31) (.int .i64 32) (.int .i64 29) (.int .i64 30) t _ bs
  rw [← e3] at c0 c1 c2 c3 cs cb
  obtain ⟨d0, d1, d2, ds, db⟩ := row3v_at X3 (.slice (some ⟨w.heap.size, 0, none⟩) 4 4) (.slice (some ⟨w.heap.size + 1, 0, none⟩) 4 4) (.slice (some ⟨w.heap.size + 1 + 1, 0, none⟩) 4 4) s _ cs
  rw [← e4] at d0 d1 d2 ds db
  have h14 : Below (w.heap.size + 1) X1 X4 := bb.trans ((cb.mono (by omega)).trans (db.mono (by omega)))
  have h24 : Below (w.heap.size + 1 + 1) X2 X4 := cb.trans (db.mono (by omega))
  refine ⟨⟨by omega, fun i hi => ?_, fun i k hi hk => ?_⟩, ab.trans (h14.mono (by omega))⟩
  · match i, hi with
    | 0, _ => exact d0
    | 1, _ => exact d1
    | 2, _ => exact d2
  · match i, hi, k, hk with
    | 0, _, 0, _ => exact (h14.cell (p := ⟨w.heap.size, 0, none⟩) (by show w.heap.size < _; omega)).trans a0
    | 0, _, 1, _ => exact (h14.cell (p := ⟨w.heap.size, 1, none⟩) (by show w.heap.size < _; omega)).trans a1
    | 0, _, 2, _ => exact (h14.cell (p := ⟨w.heap.size, 2, none⟩) (by show w.heap.size < _; omega)).trans a2
    | 0, _, 3, _ => exact (h14.cell (p := ⟨w.heap.size, 3, none⟩) (by show w.heap.size < _; omega)).trans a3
    | 1, _, 0, _ => exact (h24.cell (p := ⟨w.heap.size + 1, 0, none⟩) (by show w.heap.size + 1 < _; omega)).trans b0
    | 1, _, 1, _ => exact (h24.cell (p := ⟨w.heap.size + 1, 1, none⟩) (by show w.heap.size + 1 < _; omega)).trans b1
    | 1, _, 2, _ => exact (h24.cell (p := ⟨w.heap.size + 1, 2, none⟩) (by show w.heap.size + 1 < _; omega)).trans b2
    | 1, _, 3, _ => exact (h24.cell (p := ⟨w.heap.size + 1, 3, none⟩) (by show w.heap.size + 1 < _; omega)).trans b3
    | 2, _, 0, _ => exact (db.cell (p := ⟨w.heap.size + 1 + 1, 0, none⟩) (by show w.heap.size + 1 + 1 < _; omega)).trans c0
    | 2, _, 1, _ => exact (db.cell (p := ⟨w.heap.size + 1 + 1, 1, none⟩) (by show w.heap.size + 1 + 1 < _; omega)).trans c1
    | 2, _, 2, _ => exact (db.cell (p := ⟨w.heap.size + 1 + 1, 2, none⟩) (by show w.heap.size + 1 + 1 < _; omega)).trans c2
    | 2, _, 3, _ => exact (db.cell (p := ⟨w.heap.size + 1 + 1, 3, none⟩) (by show w.heap.size + 1 + 1 < _; omega)).trans c3
end Go.Proofs.YtcabcmlnmpfhkaaDoor.sea
