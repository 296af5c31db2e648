/- Package months, its own functions: the table of lengths; how long a month is; its first day; its index. -/
import Derived.Test.YtcabcmlnmpfhkaaDoorYS
import Derived.Test.YtcabcmlnmpfhkaaDoorIMod
import Derived.Test.YtcabcmlnmpfhkaaDoorIAdd
import Derived.Test.YtcabcmlnmpfhkaaDoorMonRef2
namespace Go.Proofs.YtcabcmlnmpfhkaaDoor
open Go.RowKit

/-- The cells of the table of lengths. -/
def lens : Array Value := #[.int .i64 31, .int .i64 28, .int .i64 31, .int .i64 30, .int .i64 31, .int .i64 30, .int .i64 31, .int .i64 31, .int .i64 30, .int .i64 31, .int .i64 30, .int .i64 31]
/-- The table of lengths is laid, as far as the calls of package months lean on it. -/
def StartM (w : World) : Prop := ∃ t fr, w.heap[1]? = some (.cells lens t fr)
theorem StartM.size {w : World} (h : StartM w) : 1 < w.heap.size := by
  obtain ⟨t, fr, h⟩ := h
  rcases Nat.lt_or_ge 1 w.heap.size with h' | h'
  · exact h'
  · rw [Array.getElem?_eq_none h'] at h; cases h
theorem StartM.below {w w' : World} (h : StartM w) (hb : Below w.heap.size w w') : StartM w' := by
  have hs := h.size
  obtain ⟨t, fr, h⟩ := h
  exact ⟨t, fr, (hb.block _ hs).trans h⟩
theorem StartM.cell {w : World} (h : StartM w) (i : Nat) (v : Value) (hv : lens[i]? = some v) : w.cell? ⟨1, i, none⟩ = some v := by
  obtain ⟨t, fr, h⟩ := h
  simp [World.cell?, h, hv]
/-- The number that the table has for a month. -/
def lnI (m : Int) : Int := if m = 4 ∨ m = 6 ∨ m = 9 ∨ m = 11 then 30 else if m = 2 then 28 else 31
theorem lens_at (m : Int) (h0 : 1 ≤ m) (h1 : m ≤ 12) : lens[(m - 1).toNat]? = some (.int .i64 (lnI m)) := by
  have hm : m = 1 ∨ m = 2 ∨ m = 3 ∨ m = 4 ∨ m = 5 ∨ m = 6 ∨ m = 7 ∨ m = 8 ∨ m = 9 ∨ m = 10 ∨ m = 11 ∨ m = 12 := by omega
  rcases hm with rfl | rfl | rfl | rfl | rfl | rfl | rfl | rfl | rfl | rfl | rfl | rfl <;> rfl
theorem mlen_ln (y m : Int) : mlen y m = if m = 2 ∧ lpB y = true then lnI m + 1 else lnI m := by
  unfold mlen lnI
  rw [lenI_lp]
  cases lpB y <;> simp <;> (repeat' split) <;> omega
theorem lnI_bd (m : Int) : 28 ≤ lnI m ∧ lnI m ≤ 31 := by unfold lnI; split <;> (try split) <;> omega
theorem plen_any (y m : Int) (w : World) (hs : StartY w) (hm : StartM w) (hy : yr y = true) (h0 : 1 ≤ m) (h1 : m ≤ 12) :
    Calls Tryd.prog 38 #[.int .i64 y, .int .i64 m] w fun e w' => e = .returned (.int .i64 (mlen y m)) ∧ Below w.heap.size w w' := by
  have hb := (yr_iff y).1 hy
  have HL := Lib.hid (qleap_any y w hs (by omega) (by omega))
  have hc := hm.cell _ _ (lens_at m h0 h1)
  rw [show (m - 1).toNat = m.toNat - 1 by omega] at hc
  have hmb := hm.size
  have hln := lnI_bd m
  have HE := Lib.hid (mlen_ln y m)
  rw [hy, Bool.true_and, yE_in hy] at HL
  obtain ⟨l, hl⟩ : ∃ l, lnI m = l := ⟨_, rfl⟩
  rw [hl] at hc hln HE
  clear hy hl hm
  have hi : (m - 1).toNat < 12 := by omega
  cases hB : lpB y
  · rw [hB] at HL HE
    simp only [Bool.false_eq_true, and_false, if_false] at HE
    rw [HE.out]
    clear HE hB
    go_enter Tryd.func38, Tryd.ntmps38
    go_wp2_with (go_at_call 45; refine HL.out.mono ?_; rintro e w' ⟨rfl, hb⟩)
    go_ret
    exact ⟨rfl, hb⟩
  · rw [hB] at HL HE
    by_cases h2 : m = 2
    · have HV : Hid (mlen y m = l + 1) := by show _ = _; rw [HE.out]; simp [h2]
      rw [HV.out]
      subst h2
      replace hc : w.cell? ⟨1, 1, none⟩ = some (.int .i64 l) := hc
      clear HE hB HV
      go_enter Tryd.func38, Tryd.ntmps38
      go_wp2_with (go_at_call 45; refine HL.out.mono ?_; rintro e w' ⟨rfl, hb⟩)
      go_ret
      exact ⟨rfl, hb⟩
    · have HV : Hid (mlen y m = l) := by show _ = _; rw [HE.out]; simp [h2]
      rw [HV.out]
      have h3 : (m == 2) = false := by simp [h2]
      clear HE hB HV h2
      go_enter Tryd.func38, Tryd.ntmps38
      go_wp2_with (go_at_call 45; refine HL.out.mono ?_; rintro e w' ⟨rfl, hb⟩)
      go_ret
      exact ⟨rfl, hb⟩

/-- The program's own first day of a month. -/
theorem pmst_any (y : Int) (n : Nat) (m : Int) (w : World) (hs : StartY w) (hm : StartM w) (hy : yr y = true) (hn : n < 12) (hmn : m = (n : Int) + 1) :
    Calls Tryd.prog 37 #[.int .i64 y, .int .i64 m] w fun e w' => e = .returned (.int .i64 (mst y n)) ∧ Below w.heap.size w w' := by
  have hb := (yr_iff y).1 hy
  have HS := Lib.hid (qstart_any y w hs)
  rw [yE_in hy, yV_in hy] at HS
  have hbd := stI_bd y (by omega)
  have HL : Hid (∀ k : Nat, k < 12 → ∀ X, Below w.heap.size w X → Calls Tryd.prog 38 #[.int .i64 y, .int .i64 ((k : Int) + 1)] X fun e w' => e = .returned (.int .i64 (mlen y ((k : Int) + 1))) ∧ Below w.heap.size w w') :=
    fun k hk X hX => (plen_any y _ X (hs.below hX) (hm.below hX) hy (by omega) (by omega)).mono fun _ _ ⟨h1, h2⟩ => ⟨h1, hX.trans (h2.mono hX.size)⟩
  have HB : Hid (∀ k : Nat, k ≤ 12 → -9132000000000000000 ≤ mst y k ∧ mst y k ≤ 9132000000000000000) := fun k hk => mst_bd y k hk (by omega)
  have HM : Hid (∀ k : Nat, mst y (k + 1) = mst y k + mlen y ((k : Int) + 1)) := fun k => rfl
  have HZ : Hid (stI y = mst y 0) := (rfl : stI y = mst y 0)
  subst hmn
  generalize stI y = S at *
  clear hy hs hm
  go_enter Tryd.func37, Tryd.ntmps37
  go_wp2_with (go_at_call 44; refine HS.out.mono ?_; rintro e w' ⟨rfl, hb⟩)
  go_loopw [5, 7, 15] (fun d _ k wr => ∃ i : Nat, i ≤ n ∧ k = .int .i64 i ∧ d = .int .i64 (mst y i) ∧ Below w.heap.size w wr) (fun _ _ k _ => n - (intOf k).toNat)
  case atStart => exact ⟨0, by omega, rfl, by rw [← HZ.out], by assumption⟩
  case round =>
    obtain ⟨i, hi, rfl, rfl, hX⟩ := hrel
    obtain ⟨b1, b2⟩ := HB.out i (by omega)
    by_cases hlt : i < n
    · have HC := Lib.hid (HL.out i (by omega) _ hX)
      have HN := Lib.hid (HM.out i)
      have c := mlen_bd y ((i : Int) + 1)
      generalize mst y i = D at *
      generalize mlen y ((i : Int) + 1) = L at *
      go_wp2_with (go_at_call 38; refine HC.out.mono ?_; rintro e w' ⟨rfl, hb⟩)
      go_roundw
      case rel => exact ⟨i + 1, by omega, by go_num, by rw [HN.out], hb⟩
      case measure => simp [intOf]; omega
    · obtain rfl : i = n := by omega
      go_wp2
      go_ret
      exact ⟨rfl, hX⟩

theorem pix_any (y m : Int) (w : World) (h0 : -100000000000000000 ≤ y) (h1 : y ≤ 100000000000000000) (h2 : 1 ≤ m) (h3 : m ≤ 12) :
    Calls Tryd.prog 34 #[.int .i64 y, .int .i64 m] w fun e w' => e = .returned (.int .i64 (ixI y m 0)) ∧ w = w' := by
  have HV : Hid (y * 12 + m - 1 = ixI y m 0) := by show _ = _; unfold ixI; omega
  go_enter Tryd.func34, Tryd.ntmps34
  go_wp2
  go_ret
  exact ⟨ret_i HV.out, rfl⟩
theorem pmon_any (n : Int) (w : World) (h0 : -9223372036854775808 ≤ n) (h1 : n ≤ 9223372036854775807) :
    Calls Tryd.prog 35 #[.int .i64 n] w fun e w' => e = .returned (.tuple #[.int .i64 (n / 12), .int .i64 (n % 12 + 1)]) ∧ w = w' := by
  have HD := Lib.hid (fun w => idiv_pos n 12 w h0 h1 (by omega))
  have HM := Lib.hid (fun w => imod_pos n 12 w (by omega) (by omega))
  have b1 : 0 ≤ n % 12 := Int.emod_nonneg _ (by omega)
  have b2 : n % 12 < 12 := Int.emod_lt_of_pos _ (by omega)
  generalize n / 12 = q at *
  generalize n % 12 = r at *
  go_enter Tryd.func35, Tryd.ntmps35
  go_wp2_with (first
    | (go_at_call 42; refine (HD.out _).mono ?_; rintro e w' ⟨rfl, rfl⟩)
    | (go_at_call 43; refine (HM.out _).mono ?_; rintro e w' ⟨rfl, rfl⟩))
  go_ret2
  exact ⟨rfl, rfl⟩
end Go.Proofs.YtcabcmlnmpfhkaaDoor
