/- A mask of the law among the arguments: its bytes lie in memory. -/
import Derived.Test.YthgnoeigjngniaaMOf
import Derived.Test.YthgnoeigjngniaaFrameG
namespace Go.Proofs.Ythgnoeigjngniaa
open Go.ChangeShapes Go.WideShapes Go.ChangeAt Go.RowKit

theorem cellsU8 : Try.prog.cellsOf 5 = 1 := by kernel_rfl
theorem cellsSl : Try.prog.cellsOf 22 = 1 := by kernel_rfl
theorem cellsM : Try.prog.cellsOf 24 = 1 := by kernel_rfl
/-- A slice of bytes that can be read. -/
theorem bs_of {H : Type} {enc : TypeId × Value → H} {W : World} {sp : Nat → Bool} {held : Bool} {n : Nat} {v : Value} {x : DataW H × List MemPlace}
    (h : DataW.trod enc Try.prog W 0 sp held n 22 [v] = some x) : BS W W.heap.size v := by
  rcases open_ints Try.underlying22 Try.underlying5 cellsU8 h with ⟨hc, _⟩ | ⟨a, len, cap, zs, hc, _, hl, hm, hz, _, hcell, hwz⟩
  · injection hc with hc _
    subst hc
    exact ⟨none, 0, 0, rfl, Nat.le_refl _, by unfold maxLen; omega, fun h => absurd h (Nat.lt_irrefl _)⟩
  · injection hc with hc _
    subst hc
    refine ⟨some a, len, cap, rfl, hl, hm, fun h0 => ?_⟩
    have hzl : len ≤ zs.length := by rw [hz]; split <;> omega
    have hc0 := hcell 0 (by omega)
    rw [show a.add 0 = a by simp [Addr.add]] at hc0
    have hspot : a.spot = none := by
      cases hs : a.spot with
      | none => rfl
      | some k => unfold World.cell? at hc0; rw [hs] at hc0; simp at hc0; split at hc0 <;> cases hc0
    have hlt : a.block < W.heap.size := by
      rcases Nat.lt_or_ge a.block W.heap.size with h' | h'
      · exact h'
      · unfold World.cell? at hc0; rw [Array.getElem?_eq_none h'] at hc0; cases hc0
    obtain ⟨b, o, sp'⟩ := a
    simp only at hspot hlt
    subst hspot
    refine ⟨b, o, rfl, hlt, fun i hi => ?_⟩
    have hci := hcell i (by omega)
    have hadd : (⟨b, o, none⟩ : Addr).add i = ⟨b, o + i, none⟩ := by
      unfold Addr.add
      split
      · rename_i h; subst h; rfl
      · rfl
    rw [hadd] at hci
    have hin : zs.getD i 0 ∈ zs := by
      rw [List.getD_eq_getElem?_getD, List.getElem?_eq_getElem (by omega)]
      exact List.getElem_mem _
    have hw := hwz _ hin
    have hb : 0 ≤ zs.getD i 0 ∧ zs.getD i 0 < 256 := by
      have := bounds_u8 hw; omega
    exact ⟨(zs.getD i 0).toNat, by omega, by rw [hci]; congr 2; omega⟩
theorem open_M {H : Type} {enc : TypeId × Value → H} {W : World} {sp : Nat → Bool} {held : Bool} {r : Reach} {b0 : Nat} {v : Value} {d : DataW H} {ps : List MemPlace}
    (hval : Value.okWide Try.prog W r b0 24 v) (h : DataW.Trod enc Try.prog W 0 sp held 24 v d ps) : ∃ u, v = .agg #[u] ∧ BS W W.heap.size u := by
  obtain ⟨cs, rfl, hsz⟩ := okWide_struct Try.underlying24 hval
  rw [cellsM] at hsz
  obtain ⟨u, rfl⟩ : ∃ u, cs = #[u] := by
    match cs, hsz with
    | ⟨[u]⟩, _ => exact ⟨u, rfl⟩
  obtain ⟨n, h⟩ := h
  obtain ⟨y0, m, _, _, hf⟩ := trod_struct1 Try.underlying24 h
  exact ⟨u, rfl, bs_of hf⟩
end Go.Proofs.Ythgnoeigjngniaa
