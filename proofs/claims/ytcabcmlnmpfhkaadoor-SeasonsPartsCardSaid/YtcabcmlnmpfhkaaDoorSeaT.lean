/- Package seasons: the table of codes, as the program's start has laid it. -/
import Derived.Test.YtcabcmlnmpfhkaaDoorSeaOwn
import Derived.Deep.MidRow
namespace Go.Proofs.YtcabcmlnmpfhkaaDoor
open Go.RowKit

/-- The cells of the table of codes. -/
def partsC : Array Value := #[.int .i64 3, .int .i64 3, .int .i64 6, .int .i64 3, .int .i64 9, .int .i64 3, .int .i64 12, .int .i64 3, .int .i64 3, .int .i64 3, .int .i64 6, .int .i64 3, .int .i64 9, .int .i64 3, .int .i64 12, .int .i64 3, .int .i64 9, .int .i64 3, .int .i64 12, .int .i64 3, .int .i64 3, .int .i64 3, .int .i64 6, .int .i64 3, .int .i64 1, .int .i64 3, .int .i64 4, .int .i64 3, .int .i64 7, .int .i64 3, .int .i64 10, .int .i64 3, .int .i64 1, .int .i64 4, .int .i64 5, .int .i64 4, .int .i64 9, .int .i64 4, .int .i64 1, .int .i64 6, .int .i64 7, .int .i64 6]
def StartS (w : World) : Prop := ∃ t fr, w.heap[0]? = some (.cells partsC t fr)
theorem StartS.size {w : World} (h : StartS w) : 0 < w.heap.size := by
  obtain ⟨t, fr, h⟩ := h
  rcases Nat.lt_or_ge 0 w.heap.size with h' | h'
  · exact h'
  · rw [Array.getElem?_eq_none h'] at h; cases h
theorem StartS.below {w w' : World} (h : StartS w) (hb : Below w.heap.size w w') : StartS w' := by
  have hs := h.size
  obtain ⟨t, fr, h⟩ := h
  exact ⟨t, fr, (hb.block _ hs).trans h⟩
/-- What the program's start has laid, as far as the calls lean on it. -/
def Start (w : World) : Prop := StartYM w ∧ StartS w
theorem Start.below {w w' : World} (h : Start w) (hb : Below w.heap.size w w') : Start w' := ⟨h.1.below hb, h.2.below hb⟩
/-- The world of a call that began at w: what the start has laid is there, and below w's size nothing has turned. -/
def Ok (w W : World) : Prop := Start W ∧ Below w.heap.size w W
theorem Ok.step {w W W' : World} (h : Ok w W) (hb : Below W.heap.size W W') : Ok w W' := ⟨h.1.below hb, h.2.trans (hb.mono h.2.size)⟩
theorem Ok.refl {w : World} (h : Start w) : Ok w w := ⟨h, Below.refl _ _⟩
theorem parts_at {c : Int} (hc : isC c = true) : partsC[(c - 21).toNat * 2]? = some (.int .i64 (sF c : Nat)) ∧ partsC[(c - 21).toNat * 2 + 1]? = some (.int .i64 (sN c : Nat)) := by
  rcases code_cases hc with rfl | rfl | rfl | rfl | rfl | rfl | rfl | rfl | rfl | rfl | rfl | rfl | rfl | rfl | rfl | rfl | rfl | rfl | rfl | rfl | rfl <;> exact ⟨rfl, rfl⟩
theorem StartS.row {w : World} (h : StartS w) {c : Int} (hc : isC c = true) : w.cell? ⟨0, (c - 21).toNat * 2, none⟩ = some (.int .i64 (sF c : Nat)) ∧ w.cell? ⟨0, (c - 21).toNat * 2 + 1, none⟩ = some (.int .i64 (sN c : Nat)) := by
  obtain ⟨t, fr, h⟩ := h
  obtain ⟨p, q⟩ := parts_at hc
  constructor <;> simp [World.cell?, h, p, q]

/-- A part of a year in a block of its own. -/
theorem two_new {w : World} (w1 : World) (a b : Int) (h : Below w.heap.size w w1) : (w1.alloc (.cells #[.int .i64 a, .int .i64 b] 54)).cell? ⟨w1.heap.size, 0, none⟩ = some (.int .i64 a) ∧ (w1.alloc (.cells #[.int .i64 a, .int .i64 b] 54)).cell? ⟨w1.heap.size, 1, none⟩ = some (.int .i64 b) ∧ Below w.heap.size w (w1.alloc (.cells #[.int .i64 a, .int .i64 b] 54)) :=
  ⟨cell_of_row _ _ 0 _ _ _ (heap_alloc_new w1 _), cell_of_row _ _ 1 _ _ _ (heap_alloc_new w1 _), h.alloc h.size _⟩
def kE (c : Int) : Int := if isC c = true then 0 else 7
theorem sea_check (c : Int) (w : World) (hc : I64 c) : Calls Tryd.prog 9 #[.int .i64 c] w fun e w' => e = .returned (.int .i64 (kE c)) ∧ Below w.heap.size w w' := by
  obtain ⟨c0, c1⟩ := hc
  unfold kE
  cases h : isC c
  · simp only [Bool.false_eq_true, if_false]
    rcases isC_no h with h1 | h1
    · clear h
      go_enter Tryd.func9, Tryd.ntmps9
      go_wp2
      go_ret
      exact ⟨rfl, Below.refl _ _⟩
    · have h2 : ¬ c < 21 := by omega
      clear h
      go_enter Tryd.func9, Tryd.ntmps9
      go_wp2
      go_ret
      exact ⟨rfl, Below.refl _ _⟩
  · simp only [if_true]
    obtain ⟨h1, h2⟩ := (isC_iff c).1 h
    have h3 : ¬ c < 21 := by omega
    have h4 : ¬ 41 < c := by omega
    clear h h1 h2
    go_enter Tryd.func9, Tryd.ntmps9
    go_wp2
    go_ret
    exact ⟨rfl, Below.refl _ _⟩
theorem sea_months (c : Int) (w : World) (hs : Start w) (hc : I64 c) : Calls Tryd.prog 7 #[.int .i64 c] w fun e w' => e = .returned (.tuple #[.int .i64 (sF c : Nat), .int .i64 (sN c : Nat), .int .i64 (kE c)]) ∧ Below w.heap.size w w' := by
  have HC := Lib.hid (fun X => sea_check c X hc)
  obtain ⟨c0, c1⟩ := hc
  unfold kE at *
  cases h : isC c
  · rw [h] at HC
    simp only [Bool.false_eq_true, if_false] at HC ⊢
    obtain ⟨e1, e2⟩ := sF_no h
    rw [e1, e2]
    clear h e1 e2 hs
    go_enter Tryd.func7, Tryd.ntmps7
    go_wp2_with (go_at_call 9; refine (HC.out _).mono ?_; rintro e w1 ⟨rfl, hb⟩)
    go_ret3
    exact ⟨rfl, hb⟩
  · rw [h] at HC
    simp only [if_true] at HC ⊢
    obtain ⟨h1, h2⟩ := (isC_iff c).1 h
    have HR := Lib.hid (fun X (hX : Below w.heap.size w X) => (hs.2.below hX).row h)
    have hsz := hs.2.size
    clear hs h
    generalize sF c = F at *
    generalize sN c = N at *
    go_enter Tryd.func7, Tryd.ntmps7
    go_upto_region 4 with (go_at_call 9; refine (HC.out _).mono ?_; rintro e w1 ⟨rfl, hb⟩)
    obtain ⟨q0, q1⟩ := HR.out _ hb
    go_upto_region 5 with fail
    obtain ⟨n0, n1, hb2⟩ := two_new w1 F N hb
    generalize (w1.alloc (Obj.cells #[Value.int IntKind.i64 F, Value.int IntKind.i64 N] 54)) = W2 at *
    clear q0 q1
    go_region
    go_wp2_with fail

    go_ret3
    exact ⟨rfl, hb2.trans ⟨rfl, rfl, rfl, Nat.le_refl _, fun _ _ => rfl⟩⟩
end Go.Proofs.YtcabcmlnmpfhkaaDoor
