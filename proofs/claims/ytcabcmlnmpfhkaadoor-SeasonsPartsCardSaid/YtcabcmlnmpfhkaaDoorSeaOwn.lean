/- Numbers in slices of a slice's own making; the codes so far whose run has a day. -/
import Derived.Test.YtcabcmlnmpfhkaaDoorSeaC0
import Derived.OwnWalk
import Derived.Maps.AppendAt
namespace Go.Proofs.YtcabcmlnmpfhkaaDoor
open Go.RowKit

/-- The cells of a list of numbers. -/
def LisC (X : World) (a : Option Addr) (l : List Int) : Prop := l ≠ [] → ∃ g o, a = some ⟨g, o, none⟩ ∧ g < X.heap.size ∧ ∀ i z, l[i]? = some z → X.cell? ⟨g, o + i, none⟩ = some (.int .i64 z)
theorem LisC.below {X Y : World} {a : Option Addr} {l : List Int} (h : LisC X a l) (hb : Below X.heap.size X Y) : LisC Y a l := fun hl => by
  obtain ⟨g, o, e, hg, hc⟩ := h hl
  exact ⟨g, o, e, Nat.lt_of_lt_of_le hg hb.size, fun i z hz => (hb.cell (p := ⟨g, o + i, none⟩) hg).trans (hc i z hz)⟩
def cellsI (l : List Int) : List Value := l.map fun z => Value.int .i64 z
theorem cellsI_snoc (l : List Int) (z : Int) : cellsI (l ++ [z]) = cellsI l ++ [Value.int .i64 z] := by simp [cellsI]
theorem cellsI_len (l : List Int) : (cellsI l).length = l.length := by simp [cellsI]
theorem own_below {w w' : World} {base : Nat} {e : TypeId} {n : Nat} {v : Value} {xs : List Value} (h : w.ownsRow base e 1 v n xs) (hb : Below w.heap.size w w') : w'.ownsRow base e 1 v n xs := by
  obtain ⟨h1, h2⟩ := h
  refine ⟨h1, ?_⟩
  rcases h2 with h2 | ⟨g, cap, cur, rfl, hg, hh, hr⟩
  · exact .inl h2
  · have hlt : g < w.heap.size := by
      rcases Nat.lt_or_ge g w.heap.size with h' | h'
      · exact h'
      · rw [Array.getElem?_eq_none h'] at hh; cases hh
    exact .inr ⟨g, cap, cur, rfl, hg, (hb.block g hlt).trans hh, hr⟩
theorem lisC_of_own {w : World} {base : Nat} {v : Value} {l : List Int} (h : w.ownsRow base 3 1 v l.length (cellsI l)) : ∃ (a : Option Addr) (m : Nat), v = .slice a l.length m ∧ LisC w a l := by
  rcases h.2 with ⟨rfl, h0⟩ | ⟨g, cap, cur, rfl, hg, hh, hn, hc, hs, ht⟩
  · have : l = [] := List.eq_nil_of_length_eq_zero h0
    subst this; exact ⟨none, 0, rfl, fun q => absurd rfl q⟩
  · refine ⟨some ⟨g, 0, none⟩, cap, rfl, fun _ => ⟨g, 0, rfl, ?_, fun i z hz => ?_⟩⟩
    · rcases Nat.lt_or_ge g w.heap.size with h' | h'
      · exact h'
      · rw [Array.getElem?_eq_none h'] at hh; cases hh
    · rw [Nat.zero_add]
      have hi : i < l.length := by
        rcases Nat.lt_or_ge i l.length with h' | h'
        · exact h'
        · rw [List.getElem?_eq_none h'] at hz; cases hz
      have h1 : (cur.toList.take (l.length * 1))[i]? = (cellsI l)[i]? := by rw [ht]
      rw [List.getElem?_take_of_lt (by omega), Array.getElem?_toList] at h1
      rw [cell_of_row w g i _ _ _ hh, h1]
      simp [cellsI, List.getElem?_map, hz]
/-- The codes so far whose run has the day. -/
def codesN (d : Int) (n : Nat) : List Int := ((List.range n).map (fun k : Nat => (21 : Int) + k)).filter (fun c => ofB d c)
theorem codesN_succ (d : Int) (n : Nat) : codesN d (n + 1) = codesN d n ++ (if ofB d (21 + (n : Int)) = true then [21 + (n : Int)] else []) := by
  unfold codesN
  rw [List.range_succ, List.map_append, List.filter_append]
  congr 1
  simp only [List.map_cons, List.map_nil, List.filter_cons, List.filter_nil]
theorem codesN_len (d : Int) (n : Nat) : (codesN d n).length ≤ n := by
  unfold codesN
  refine Nat.le_trans (List.length_filter_le _ _) ?_
  simp
end Go.Proofs.YtcabcmlnmpfhkaaDoor
