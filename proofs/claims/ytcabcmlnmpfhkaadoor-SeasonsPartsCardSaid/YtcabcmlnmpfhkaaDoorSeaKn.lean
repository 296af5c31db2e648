/- The law of the known seasons. -/
import Derived.Test.YtcabcmlnmpfhkaaDoorSeaOfN
namespace Go.Proofs.YtcabcmlnmpfhkaaDoor.sea
open Go.RowKit

def yrL : List Int := [-10000000000000000, -1, 0, 1899, 1900, 2000, 9999999999999999, 10000000000000000, 10000000000000001]
def Row9 (p : Nat) (X : World) : Prop := p < X.heap.size ∧ ∀ i, i < 9 → X.cell? ⟨p, i, none⟩ = some (.int .i64 (yrL.getD i 0))
theorem Row9.below {p : Nat} {X Y : World} (h : Row9 p X) (hb : Below X.heap.size X Y) : Row9 p Y :=
  ⟨Nat.lt_of_lt_of_le h.1 hb.size, fun i hi => (hb.cell (p := ⟨p, i, none⟩) h.1).trans (h.2 i hi)⟩
theorem row9_new (w W : World) (t : TypeId) (hW : W = w.alloc (.cells #[.int .i64 (-10000000000000000), .int .i64 (-1), .int .i64 0, .int .i64 1899, .int .i64 1900, .int .i64 2000, .int .i64 9999999999999999, .int .i64 10000000000000000, .int .i64 10000000000000001] t)) : Row9 w.heap.size W ∧ Below w.heap.size w W := by
  subst hW
  refine ⟨⟨by simp, fun i hi => ?_⟩, by go_grown⟩
  rw [cell_of_row _ _ i _ _ (0, 0) (heap_alloc_new w _)]
  match i, hi with
  | 0, _ | 1, _ | 2, _ | 3, _ | 4, _ | 5, _ | 6, _ | 7, _ | 8, _ => rfl
set_option maxRecDepth 100000 in
set_option maxHeartbeats 4000000 in
theorem known_law (w W : World) (ho : Ok w W) : Calls Tryd.prog 6 #[] W fun e w' => e = .returned (.bool true) ∧ Ok w w' := by
  have KR : Hid (∀ y c B X, I64 y → I64 c → Ok B X → Calls Tryd.prog 3 #[.int .i64 y, .int .i64 c] X fun x w' => x = .returned (.bool true) ∧ Ok B w') := fun y c B X hy hc hX => run_law y c B X hy hc hX
  have KO : Hid (∀ d c B X, I64 d → I64 c → Ok B X → Calls Tryd.prog 4 #[.int .i64 d, .int .i64 c] X fun x w' => x = .returned (.bool true) ∧ Ok B w') := fun d c B X hd hc hX => of_law d c B X hd hc hX
  have HLi : Hid (∀ B X, Ok B X → Calls Tryd.prog 13 #[] X fun x w' => x = .returned (.bool true) ∧ Ok B w') := fun B X hX => lives_t B X hX
  have HO := Lib.hid ho
  go_enter Tryd.func6, Tryd.ntmps6
  go_upto_region 2 with fail
  obtain ⟨hR, hb⟩ := row9_new W _ 2 rfl
  have o1 := ho.step hb
  clear ho hb
  generalize (W.alloc (Obj.cells #[Value.int IntKind.i64 (-10000000000000000), Value.int IntKind.i64 (-1), Value.int IntKind.i64 0, Value.int IntKind.i64 1899, Value.int IntKind.i64 1900, Value.int IntKind.i64 2000, Value.int IntKind.i64 9999999999999999, Value.int IntKind.i64 10000000000000000, Value.int IntKind.i64 10000000000000001] 2)) = W1 at *
  generalize W.heap.size = p at *
  go_upto_region 3 with fail
  go_loopw [2] (fun iv wx => ∃ i : Nat, i ≤ 9 ∧ iv = .int .i64 i ∧ Ok w wx ∧ Row9 p wx) (fun iv _ => 9 - (intOf iv).toNat)
  case atStart => exact ⟨0, by omega, rfl, o1, hR⟩
  case round =>
    clear o1 hR
    obtain ⟨i, hi, rfl, hX, hR⟩ := hrel
    by_cases hi9 : i = 9
    · subst hi9
      have hi1 : ¬ ((9 : Nat) : Int) < 9 := by omega
      clear hR KR
      go_upto_region 11 with fail
      go_loopw [4] (fun cv wx => ∃ n : Nat, n ≤ 23 ∧ cv = .int .i64 (20 + (n : Int)) ∧ Ok w wx) (fun cv _ => 60 - (intOf cv).toNat)
      case atStart => exact ⟨0, by omega, rfl, hX⟩
      case round =>
        clear hX
        obtain ⟨n, hn, rfl, hX⟩ := hrel
        by_cases h23 : n = 23
        · subst h23
          have hl : ¬ (20 : Int) + ((23 : Nat) : Int) < 43 := by omega
          go_wp2_with (go_at_call 13; ((with_reducible refine (HLi.out _ _ hX).mono ?_); rintro e w7 ⟨rfl, hk7⟩))
          go_ret
          exact ⟨rfl, hk7⟩
        · have hl : (20 : Int) + (n : Int) < 43 := by omega
          have hci : I64 (20 + (n : Int)) := by unfold I64; omega
          have K1 := Lib.hid (KO.out (-3652425000000000000) (20 + (n : Int)) w _ (by unfold I64; omega) hci hX)
          have K2 := Lib.hid (fun X hX => KO.out 3652425000000000365 (20 + (n : Int)) w X (by unfold I64; omega) hci hX)
          have K3 := Lib.hid (fun X hX => KO.out 3652425000000000366 (20 + (n : Int)) w X (by unfold I64; omega) hci hX)
          have K4 := Lib.hid (fun X hX => KO.out 0 (20 + (n : Int)) w X (by unfold I64; omega) hci hX)
          clear hci KO HLi hX
          go_wp2_with (first
          | (go_at_call 4; ((with_reducible refine K1.out.mono ?_); rintro e x1 ⟨rfl, hx1⟩))
          | (go_at_call 4; ((with_reducible refine (K2.out _ hx1).mono ?_); rintro e x2 ⟨rfl, hx2⟩))
          | (go_at_call 4; ((with_reducible refine (K3.out _ hx2).mono ?_); rintro e x3 ⟨rfl, hx3⟩))
          | (go_at_call 4; ((with_reducible refine (K4.out _ hx3).mono ?_); rintro e x4 ⟨rfl, hx4⟩)))
          go_roundw
          case rel => exact ⟨n + 1, by omega, by go_num, hx4⟩
          case measure => simp [intOf]; omega
    · have hi2 : i < 9 := by omega
      have hi1 : (i : Int) < 9 := by omega
      have hi0 : (0 : Int) ≤ (i : Int) := by omega
      have HR9 := Lib.hid hR
      have HX0 := Lib.hid hX
      have hyi : I64 (yrL.getD i 0) := by
        have : ∀ j : Fin 9, -9223372036854775808 ≤ yrL.getD j 0 ∧ yrL.getD j 0 ≤ 9223372036854775807 := by decide
        exact this ⟨i, hi2⟩
      have HY := Lib.hid hyi
      have HC : Hid (∀ X, Row9 p X → X.cell? ⟨p, i, none⟩ = some (.int .i64 (yrL.getD i 0))) := fun X h => h.2 i hi2
      clear hyi
      generalize yrL.getD i 0 = yy at *
      go_upto_region 6 with fail
      go_loopw [3] (fun cv wx => ∃ n : Nat, n ≤ 25 ∧ cv = .int .i64 (19 + (n : Int)) ∧ Ok w wx ∧ Row9 p wx) (fun cv _ => 60 - (intOf cv).toNat)
      case atStart => exact ⟨0, by omega, rfl, hX, hR⟩
      case round =>
        clear hX hR
        obtain ⟨n, hn, rfl, hX, hR⟩ := hrel
        by_cases h25 : n = 25
        · subst h25
          have hl : ¬ (19 : Int) + ((25 : Nat) : Int) < 44 := by omega
          clear KR KO HC
          go_wp2_with fail
          go_roundw
          case rel => exact ⟨i + 1, by omega, by go_num, hX, hR⟩
          case measure => simp [intOf]; omega
        · have hl : (19 : Int) + (n : Int) < 44 := by omega
          have c0 := HC.out _ hR
          have K1 := Lib.hid (KR.out yy (19 + (n : Int)) _ _ HY.out (by unfold I64; omega) (Ok.refl hX.1))
          have HX := Lib.hid hX
          have HR := Lib.hid hR
          clear hX hR KR KO HC HLi
          go_wp2_with (go_at_call 3; ((with_reducible refine K1.out.mono ?_); rintro e w7 ⟨rfl, hk7⟩))
          go_roundw
          case rel => exact ⟨n + 1, by omega, by go_num, HX.out.step hk7.2, HR.out.below hk7.2⟩
          case measure => simp [intOf]; omega
theorem run_law' (y c : Int) (w W : World) (h0 : -9223372036854775808 ≤ y) (h1 : y ≤ 9223372036854775807) (h2 : -9223372036854775808 ≤ c) (h3 : c ≤ 9223372036854775807) (ho : Ok w W) :
    Calls Tryd.prog 3 #[.int .i64 y, .int .i64 c] W fun e w' => e = .returned (.bool true) ∧ Ok w w' := run_law y c w W ⟨h0, h1⟩ ⟨h2, h3⟩ ho
theorem of_law' (d c : Int) (w W : World) (h0 : -9223372036854775808 ≤ d) (h1 : d ≤ 9223372036854775807) (h2 : -9223372036854775808 ≤ c) (h3 : c ≤ 9223372036854775807) (ho : Ok w W) :
    Calls Tryd.prog 4 #[.int .i64 d, .int .i64 c] W fun e w' => e = .returned (.bool true) ∧ Ok w w' := of_law d c w W ⟨h0, h1⟩ ⟨h2, h3⟩ ho
theorem parts_law' (y : Int) (w W : World) (h0 : -9223372036854775808 ≤ y) (h1 : y ≤ 9223372036854775807) (ho : Ok w W) :
    Calls Tryd.prog 5 #[.int .i64 y] W fun e w' => e = .returned (.bool true) ∧ Ok w w' := parts_law y w W ⟨h0, h1⟩ ho
end Go.Proofs.YtcabcmlnmpfhkaaDoor.sea
