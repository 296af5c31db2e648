/- The law of the known civil days. -/
import Derived.Test.YtiemlpmhhbmfiaaGreatDoorCivParse
namespace Go.Proofs.YtiemlpmhhbmfiaaGreatDoor.civ
open Go.RowKit

def cyL : List Int := [1582, 1970, 2000, 2024, 1, -1]
def cmL : List Int := [10, 1, 1, 2, 1, 12]
def cdL : List Int := [15, 1, 1, 29, 1, 31]
def cwL : List Int := [4, 3, 5, 3, 0, 4]
def cy (i : Nat) : Int := cyL.getD i 0
def cm (i : Nat) : Int := cmL.getD i 0
def cd (i : Nat) : Int := cdL.getD i 0
def cw (i : Nat) : Int := cwL.getD i 0
def CRow (p : Nat) (X : World) : Prop := p < X.heap.size ∧ ∀ i, i < 6 → X.cell? ⟨p, i * 3, none⟩ = some (.int .i64 (cy i)) ∧ X.cell? ⟨p, i * 3 + 1, none⟩ = some (.int .i64 (cm i)) ∧ X.cell? ⟨p, i * 3 + 2, none⟩ = some (.int .i64 (cd i))
def WRow (p : Nat) (X : World) : Prop := p < X.heap.size ∧ ∀ i, i < 6 → X.cell? ⟨p, i, none⟩ = some (.int .i64 (cw i))
theorem CRow.below {p : Nat} {X Y : World} (h : CRow p X) (hb : Below X.heap.size X Y) : CRow p Y :=
  ⟨Nat.lt_of_lt_of_le h.1 hb.size, fun i hi => ⟨(hb.cell (p := ⟨p, i * 3, none⟩) h.1).trans (h.2 i hi).1, (hb.cell (p := ⟨p, i * 3 + 1, none⟩) h.1).trans (h.2 i hi).2.1, (hb.cell (p := ⟨p, i * 3 + 2, none⟩) h.1).trans (h.2 i hi).2.2⟩⟩
theorem WRow.below {p : Nat} {X Y : World} (h : WRow p X) (hb : Below X.heap.size X Y) : WRow p Y :=
  ⟨Nat.lt_of_lt_of_le h.1 hb.size, fun i hi => (hb.cell (p := ⟨p, i, none⟩) h.1).trans (h.2 i hi)⟩
theorem ex6 (i : Nat) (h : i < 6) : cE (cy i) (cm i) (cd i) = 0 ∧ wdI (cday (cy i) (cm i) (cd i)) = cw i ∧ I64 (cy i) ∧ I64 (cm i) ∧ I64 (cd i) ∧ I64 (cday (cy i) (cm i) (cd i)) := by
  have : ∀ j : Fin 6, cE (cy j) (cm j) (cd j) = 0 ∧ wdI (cday (cy j) (cm j) (cd j)) = cw j ∧ (-9223372036854775808 ≤ cy j ∧ cy j ≤ 9223372036854775807) ∧ (-9223372036854775808 ≤ cm j ∧ cm j ≤ 9223372036854775807) ∧ (-9223372036854775808 ≤ cd j ∧ cd j ≤ 9223372036854775807) ∧ (-9223372036854775808 ≤ cday (cy j) (cm j) (cd j) ∧ cday (cy j) (cm j) (cd j) ≤ 9223372036854775807) := by decide +kernel
  exact this ⟨i, h⟩
theorem rows6 (w W : World) (hW : W = (w.alloc (Obj.cells #[Value.int IntKind.i64 (1582), Value.int IntKind.i64 (10), Value.int IntKind.i64 (15), Value.int IntKind.i64 (1970), Value.int IntKind.i64 (1), Value.int IntKind.i64 (1), Value.int IntKind.i64 (2000), Value.int IntKind.i64 (1), Value.int IntKind.i64 (1), Value.int IntKind.i64 (2024), Value.int IntKind.i64 (2), Value.int IntKind.i64 (29), Value.int IntKind.i64 (1), Value.int IntKind.i64 (1), Value.int IntKind.i64 (1), Value.int IntKind.i64 (-1), Value.int IntKind.i64 (12), Value.int IntKind.i64 (31)] 23)).alloc (Obj.cells #[Value.int IntKind.i64 4, Value.int IntKind.i64 3, Value.int IntKind.i64 5, Value.int IntKind.i64 3, Value.int IntKind.i64 0, Value.int IntKind.i64 4] 3)) : CRow w.heap.size W ∧ WRow (w.heap.size + 1) W ∧ Below w.heap.size w W := by
  subst hW
  refine ⟨⟨by simp; omega, fun i hi => ?_⟩, ⟨by simp, fun i hi => ?_⟩, ((Below.refl _ _).alloc (Nat.le_refl _) _).alloc (by simp) _⟩
  · rw [cell_of_row _ _ _ _ _ (0, 0) (heap_alloc2_old _ _ _), cell_of_row _ _ _ _ _ (0, 0) (heap_alloc2_old _ _ _), cell_of_row _ _ _ _ _ (0, 0) (heap_alloc2_old _ _ _)]
    match i, hi with
    | 0, _ | 1, _ | 2, _ | 3, _ | 4, _ | 5, _ => exact ⟨rfl, rfl, rfl⟩
  · rw [cell_of_row _ _ i _ _ (0, 0) (heap_alloc2_new _ _ _)]
    match i, hi with
    | 0, _ | 1, _ | 2, _ | 3, _ | 4, _ | 5, _ => rfl

def tsL : List ByteArray := [⟨#[]⟩, ⟨#[45]⟩, ⟨#[48, 48, 48, 48, 45, 48, 49, 45, 48, 49]⟩, ⟨#[49, 48, 48, 48, 48, 48, 48, 48, 48, 48, 48, 48, 48, 48, 48, 48, 48, 45, 49, 50, 45, 51, 49]⟩, ⟨#[49, 48, 48, 48, 48, 48, 48, 48, 48, 48, 48, 48, 48, 48, 48, 48, 49, 45, 48, 49, 45, 48, 49]⟩, ⟨#[45, 49, 48, 48, 48, 48, 48, 48, 48, 48, 48, 48, 48, 48, 48, 48, 48, 48, 45, 48, 49, 45, 48, 49]⟩, ⟨#[57, 57, 57, 57, 57, 57, 57, 57, 57, 57, 57, 57, 57, 57, 57, 57, 57, 57, 57, 57, 57, 57, 57, 45, 48, 49, 45, 48, 49]⟩, ⟨#[48, 48, 48, 48, 49, 45, 48, 49, 45, 48, 49]⟩, ⟨#[50, 48, 48, 48, 45, 48, 49, 45, 48, 49, 32]⟩, ⟨#[50, 48, 48, 48, 45, 48, 49, 45, 48, 49, 49]⟩, ⟨#[50, 48, 48, 48, 45, 45, 49, 45, 48, 49]⟩, ⟨#[50, 48, 48, 48, 45, 48, 49, 45, 45, 49]⟩, ⟨#[50, 48, 88, 48, 45, 48, 49, 45, 48, 49]⟩, ⟨#[50, 48, 48, 48, 47, 48, 49, 47, 48, 49]⟩, ⟨#[45, 50, 48, 48, 48, 45, 49, 50, 45, 51, 49]⟩, ⟨#[45, 45, 50, 48, 48, 48, 45, 49, 50, 45, 51, 49]⟩, ⟨#[50, 48, 48, 48, 45, 48, 48, 45, 49, 48]⟩, ⟨#[50, 48, 48, 48, 45, 49, 51, 45, 49, 48]⟩, ⟨#[50, 48, 48, 48, 45, 48, 49, 45, 48, 48]⟩, ⟨#[50, 48, 48, 48, 45, 48, 49, 45, 51, 50]⟩]
def ts (i : Nat) : ByteArray := tsL.getD i ⟨#[]⟩
def TRow (p : Nat) (X : World) : Prop := p < X.heap.size ∧ ∀ i, i < 20 → X.cell? ⟨p, i, none⟩ = some (.string (ts i))
theorem TRow.below {p : Nat} {X Y : World} (h : TRow p X) (hb : Below X.heap.size X Y) : TRow p Y :=
  ⟨Nat.lt_of_lt_of_le h.1 hb.size, fun i hi => (hb.cell (p := ⟨p, i, none⟩) h.1).trans (h.2 i hi)⟩
theorem ts_size (i : Nat) (h : i < 20) : (ts i).size ≤ pMax := by
  have : ∀ j : Fin 20, (ts j).size ≤ 100 := by decide +kernel
  exact Nat.le_trans (this ⟨i, h⟩) (by decide)
theorem rows20 (w W : World) (hW : W = w.alloc (Obj.cells #[Value.string ⟨#[]⟩, Value.string ⟨#[45]⟩, Value.string ⟨#[48, 48, 48, 48, 45, 48, 49, 45, 48, 49]⟩, Value.string ⟨#[49, 48, 48, 48, 48, 48, 48, 48, 48, 48, 48, 48, 48, 48, 48, 48, 48, 45, 49, 50, 45, 51, 49]⟩, Value.string ⟨#[49, 48, 48, 48, 48, 48, 48, 48, 48, 48, 48, 48, 48, 48, 48, 48, 49, 45, 48, 49, 45, 48, 49]⟩, Value.string ⟨#[45, 49, 48, 48, 48, 48, 48, 48, 48, 48, 48, 48, 48, 48, 48, 48, 48, 48, 45, 48, 49, 45, 48, 49]⟩, Value.string ⟨#[57, 57, 57, 57, 57, 57, 57, 57, 57, 57, 57, 57, 57, 57, 57, 57, 57, 57, 57, 57, 57, 57, 57, 45, 48, 49, 45, 48, 49]⟩, Value.string ⟨#[48, 48, 48, 48, 49, 45, 48, 49, 45, 48, 49]⟩, Value.string ⟨#[50, 48, 48, 48, 45, 48, 49, 45, 48, 49, 32]⟩, Value.string ⟨#[50, 48, 48, 48, 45, 48, 49, 45, 48, 49, 49]⟩, Value.string ⟨#[50, 48, 48, 48, 45, 45, 49, 45, 48, 49]⟩, Value.string ⟨#[50, 48, 48, 48, 45, 48, 49, 45, 45, 49]⟩, Value.string ⟨#[50, 48, 88, 48, 45, 48, 49, 45, 48, 49]⟩, Value.string ⟨#[50, 48, 48, 48, 47, 48, 49, 47, 48, 49]⟩, Value.string ⟨#[45, 50, 48, 48, 48, 45, 49, 50, 45, 51, 49]⟩, Value.string ⟨#[45, 45, 50, 48, 48, 48, 45, 49, 50, 45, 51, 49]⟩, Value.string ⟨#[50, 48, 48, 48, 45, 48, 48, 45, 49, 48]⟩, Value.string ⟨#[50, 48, 48, 48, 45, 49, 51, 45, 49, 48]⟩, Value.string ⟨#[50, 48, 48, 48, 45, 48, 49, 45, 48, 48]⟩, Value.string ⟨#[50, 48, 48, 48, 45, 48, 49, 45, 51, 50]⟩] 9)) : TRow w.heap.size W ∧ Below w.heap.size w W := by
  subst hW
  refine ⟨⟨by simp, fun i hi => ?_⟩, (Below.refl _ _).alloc (Nat.le_refl _) _⟩
  rw [cell_of_row _ _ i _ _ (0, 0) (heap_alloc_new _ _)]
  match i, hi with
  | 0, _ | 1, _ | 2, _ | 3, _ | 4, _ | 5, _ | 6, _ | 7, _ | 8, _ | 9, _ | 10, _ | 11, _ | 12, _ | 13, _ | 14, _ | 15, _ | 16, _ | 17, _ | 18, _ | 19, _ => rfl
  | n + 20, hi => exact absurd hi (by omega)
set_option maxRecDepth 100000 in
theorem wd_hi (X : World) : Calls Tryz.prog 21 #[.int .i64 9223372036854775807] X fun x w' => x = .returned (.int .i64 5) ∧ X = w' := by
  have e : wdI 9223372036854775807 = 5 := by decide +kernel
  rw [← e]; exact wdR_any _ X
set_option maxRecDepth 100000 in
theorem wd_lo (X : World) : Calls Tryz.prog 21 #[.int .i64 (-9223372036854775808)] X fun x w' => x = .returned (.int .i64 4) ∧ X = w' := by
  have e : wdI (-9223372036854775808) = 4 := by decide +kernel
  rw [← e]; exact wdR_any _ X

set_option maxRecDepth 100000 in
set_option maxHeartbeats 8000000 in
theorem known_law (w W : World) (h : Ok w W) :
    Calls Tryz.prog 9 #[] W fun e w' => e = .returned (.bool true) ∧ Ok w w' := by
  have e1 : stI (-6) = -2191 := by decide
  have e2 : stI 6 = 2192 := by decide
  have K1 : Hid (∀ X, Calls Tryz.prog 18 #[.int .i64 (-6)] X fun x w' => x = .returned (.int .i64 (-2191)) ∧ X = w') := fun X => by rw [← e1]; exact stR_any (-6) X (by omega) (by omega)
  have K2 : Hid (∀ X, Calls Tryz.prog 18 #[.int .i64 6] X fun x w' => x = .returned (.int .i64 2192) ∧ X = w') := fun X => by rw [← e2]; exact stR_any 6 X (by omega) (by omega)
  have hr := Ok.refl h.1
  clear e1 e2
  go_enter Tryz.func9, Tryz.ntmps9
  go_upto_region 6 with (go_at_call 18; ((with_reducible refine (K1.out _).mono ?_); rintro e w' ⟨rfl, rfl⟩))
  go_loopw [1] (fun v wr => ∃ z : Int, v = .int .i64 z ∧ -2191 ≤ z ∧ z ≤ 2192 ∧ Ok W wr) (fun v _ => (2192 - intOf v).toNat)
  case atStart => exact ⟨-2191, rfl, by omega, by omega, hr⟩
  case round =>
    obtain ⟨z, rfl, z0, z1, ho⟩ := hrel
    by_cases hz : z < 2192
    · go_wp2_with (first
        | (go_at_call 18; ((with_reducible refine (K2.out _).mono ?_); rintro e w' ⟨rfl, rfl⟩))
        | (go_at_call 4; refine (of_law z (z + 1) _ _ (by omega) (by omega) (by omega) (by omega) ho).mono ?_; rintro e w' ⟨rfl, hk⟩))
      go_roundw
      case rel => exact ⟨z + 1, rfl, by omega, by omega, hk⟩
      case measure => simp [intOf]; omega
    · clear z1
      go_upto_region 8 with (first
        | (go_at_call 18; ((with_reducible refine (K2.out _).mono ?_); rintro e w' ⟨rfl, rfl⟩))
        | (go_at_call 23; ((with_reducible refine (c_civil (w := W) (by assumption) _ _ _).mono ?_); rintro e w' ⟨rfl, hk⟩)))
      obtain ⟨hC, hW, hbN⟩ := rows6 w' _ rfl
      have ho6 := hk.step hbN
      generalize (w'.alloc (Obj.cells #[Value.int IntKind.i64 (1582), Value.int IntKind.i64 (10), Value.int IntKind.i64 (15), Value.int IntKind.i64 (1970), Value.int IntKind.i64 (1), Value.int IntKind.i64 (1), Value.int IntKind.i64 (2000), Value.int IntKind.i64 (1), Value.int IntKind.i64 (1), Value.int IntKind.i64 (2024), Value.int IntKind.i64 (2), Value.int IntKind.i64 (29), Value.int IntKind.i64 (1), Value.int IntKind.i64 (1), Value.int IntKind.i64 (1), Value.int IntKind.i64 (-1), Value.int IntKind.i64 (12), Value.int IntKind.i64 (31)] 23)).alloc (Obj.cells #[Value.int IntKind.i64 4, Value.int IntKind.i64 3, Value.int IntKind.i64 5, Value.int IntKind.i64 3, Value.int IntKind.i64 0, Value.int IntKind.i64 4] 3) = W6 at *
      generalize w'.heap.size = p at *
      clear hk ho z0 hbN hr
      go_wp2_with fail
      go_loopw [4, 5, 6] (fun iv dv ev wr => ∃ (i : Nat) (d e : Value), i ≤ 6 ∧ iv = .int .i64 i ∧ dv = d ∧ ev = e ∧ CRow p wr ∧ WRow (p + 1) wr ∧ Ok W wr) (fun iv _ _ _ => 6 - (intOf iv).toNat)
      case atStart => exact ⟨0, _, _, by omega, rfl, rfl, rfl, hC, hW, ho6⟩
      case round =>
        clear hC hW ho6
        obtain ⟨i, d0, e0, hi6, rfl, rfl, rfl, hC, hW, ho⟩ := hrel
        by_cases hi2 : i < 6
        · have hi1 : (i : Int) < 6 := by omega
          have hi0 : (0 : Int) ≤ (i : Int) := by omega
          obtain ⟨x1, x2, x3, x4, x5, x6⟩ := ex6 i hi2
          obtain ⟨c0, c1, c2⟩ := hC.2 i hi2
          have c3 := hW.2 i hi2
          have lp := hC.1
          have lq := hW.1
          have hrr := Ok.refl ho.1
          have KD : Hid (Calls Tryz.prog 11 #[C3 (cy i) (cm i) (cd i)] wr fun x w' => x = .returned (.tuple #[.int .i64 (cday (cy i) (cm i) (cd i)), .int .i64 0]) ∧ Ok wr w') := c_day hrr _ _ _ x3 x4 x5 (cV_ok x1 _) x1
          have KW : Hid (∀ B X, Ok B X → Calls Tryz.prog 20 #[.int .i64 (cday (cy i) (cm i) (cd i))] X fun x w' => x = .returned (.int .i64 (cw i)) ∧ Ok B w') := fun B X hX => c_wd hX _ x6 x2
          have KT : Hid (∀ B X, Ok B X → Calls Tryz.prog 6 #[C3 (cy i) (cm i) (cd i)] X fun x w' => x = .returned (.bool true) ∧ Ok B w') := fun B X hX => text_law _ _ _ B X x3 x4 x5 hX
          have KY : Hid (∀ B X, Ok B X → Calls Tryz.prog 3 #[C3 (cy i) (cm i) (cd i)] X fun x w' => x = .returned (.bool true) ∧ Ok B w') := fun B X hX => day_law _ _ _ B X x3 x4 x5 hX
          have HC := Lib.hid hC
          have HW := Lib.hid hW
          have tw : (cw i != cw i) = false := by simp
          clear x1 x2 x3 x4 x5 x6 hC hW
          generalize cday (cy i) (cm i) (cd i) = D at *
          generalize cy i = y at *
          generalize cm i = m at *
          generalize cd i = d at *
          generalize cw i = v at *
          go_upto_region 12 with (go_at_call 11; refine KD.out.mono ?_; rintro e w' ⟨rfl, hk⟩)
          replace c0 := (hk.2.cell (p := ⟨p, i * 3, none⟩) lp).trans c0
          replace c1 := (hk.2.cell (p := ⟨p, i * 3 + 1, none⟩) lp).trans c1
          replace c2 := (hk.2.cell (p := ⟨p, i * 3 + 2, none⟩) lp).trans c2
          replace c3 := (hk.2.cell (p := ⟨p + 1, i, none⟩) lq).trans c3
          replace HC := Lib.hid (HC.out.below hk.2)
          replace HW := Lib.hid (HW.out.below hk.2)
          replace lp := Nat.lt_of_lt_of_le lp hk.2.size
          replace lq := Nat.lt_of_lt_of_le lq hk.2.size
          have hov := Lib.hid (ho.step hk.2)
          have hrw := Ok.refl hk.1
          clear ho hrr hk KD
          generalize w' = V at *
          go_region_held3 (fun w' => w'.cell? ⟨p, i * 3, none⟩ = some (.int .i64 y) ∧ w'.cell? ⟨p, i * 3 + 1, none⟩ = some (.int .i64 m) ∧ w'.cell? ⟨p, i * 3 + 2, none⟩ = some (.int .i64 d) ∧ w'.cell? ⟨p + 1, i, none⟩ = some (.int .i64 v)) (go_keep)
            (first
            | (go_at_call 20; ((with_reducible refine (KW.out V _ (hrw.step (by go_grown))).mono ?_); rintro e w' ⟨rfl, hk2⟩; have hX := hk2.2; have k0 := (hk2.2.cell (p := ⟨p, i * 3, none⟩) lp).trans c0; have k1 := (hk2.2.cell (p := ⟨p, i * 3 + 1, none⟩) lp).trans c1; have k2 := (hk2.2.cell (p := ⟨p, i * 3 + 2, none⟩) lp).trans c2; have k3 := (hk2.2.cell (p := ⟨p + 1, i, none⟩) lq).trans c3))
            | (go_at_call 6; ((with_reducible refine (KT.out V _ (hrw.step (by go_grown))).mono ?_); rintro e w' ⟨rfl, hk2⟩; have hX := hk2.2; have k0 := (hk2.2.cell (p := ⟨p, i * 3, none⟩) lp).trans c0; have k1 := (hk2.2.cell (p := ⟨p, i * 3 + 1, none⟩) lp).trans c1; have k2 := (hk2.2.cell (p := ⟨p, i * 3 + 2, none⟩) lp).trans c2; have k3 := (hk2.2.cell (p := ⟨p + 1, i, none⟩) lq).trans c3))
            | (go_at_call 3; ((with_reducible refine (KY.out V _ (hrw.step (by go_grown))).mono ?_); rintro e w' ⟨rfl, hk2⟩; have hX := hk2.2; have k0 := (hk2.2.cell (p := ⟨p, i * 3, none⟩) lp).trans c0; have k1 := (hk2.2.cell (p := ⟨p, i * 3 + 1, none⟩) lp).trans c1; have k2 := (hk2.2.cell (p := ⟨p, i * 3 + 2, none⟩) lp).trans c2; have k3 := (hk2.2.cell (p := ⟨p + 1, i, none⟩) lq).trans c3)))
          all_goals
            go_wp2_with fail
            go_roundw
            case rel =>
              refine ⟨i + 1, _, _, by omega, by first | rfl | go_num, rfl, rfl, ?_, ?_, ?_⟩
              · exact HC.out.below hX
              · exact HW.out.below hX
              · exact hov.out.step hX
            case measure => simp [intOf]; omega
        · obtain rfl : i = 6 := by omega
          have hi1 : ¬ ((6 : Nat) : Int) < 6 := by omega
          clear hC hW hi2 hi6
          rw [show ((6 : Nat) : Int) = 6 from rfl] at *
          go_upto_region 15 with fail
          obtain ⟨hT, hbT⟩ := rows20 wr _ rfl
          have hoT := ho.step hbT
          generalize (wr.alloc (Obj.cells #[Value.string ⟨#[]⟩, Value.string ⟨#[45]⟩, Value.string ⟨#[48, 48, 48, 48, 45, 48, 49, 45, 48, 49]⟩, Value.string ⟨#[49, 48, 48, 48, 48, 48, 48, 48, 48, 48, 48, 48, 48, 48, 48, 48, 48, 45, 49, 50, 45, 51, 49]⟩, Value.string ⟨#[49, 48, 48, 48, 48, 48, 48, 48, 48, 48, 48, 48, 48, 48, 48, 48, 49, 45, 48, 49, 45, 48, 49]⟩, Value.string ⟨#[45, 49, 48, 48, 48, 48, 48, 48, 48, 48, 48, 48, 48, 48, 48, 48, 48, 48, 45, 48, 49, 45, 48, 49]⟩, Value.string ⟨#[57, 57, 57, 57, 57, 57, 57, 57, 57, 57, 57, 57, 57, 57, 57, 57, 57, 57, 57, 57, 57, 57, 57, 45, 48, 49, 45, 48, 49]⟩, Value.string ⟨#[48, 48, 48, 48, 49, 45, 48, 49, 45, 48, 49]⟩, Value.string ⟨#[50, 48, 48, 48, 45, 48, 49, 45, 48, 49, 32]⟩, Value.string ⟨#[50, 48, 48, 48, 45, 48, 49, 45, 48, 49, 49]⟩, Value.string ⟨#[50, 48, 48, 48, 45, 45, 49, 45, 48, 49]⟩, Value.string ⟨#[50, 48, 48, 48, 45, 48, 49, 45, 45, 49]⟩, Value.string ⟨#[50, 48, 88, 48, 45, 48, 49, 45, 48, 49]⟩, Value.string ⟨#[50, 48, 48, 48, 47, 48, 49, 47, 48, 49]⟩, Value.string ⟨#[45, 50, 48, 48, 48, 45, 49, 50, 45, 51, 49]⟩, Value.string ⟨#[45, 45, 50, 48, 48, 48, 45, 49, 50, 45, 51, 49]⟩, Value.string ⟨#[50, 48, 48, 48, 45, 48, 48, 45, 49, 48]⟩, Value.string ⟨#[50, 48, 48, 48, 45, 49, 51, 45, 49, 48]⟩, Value.string ⟨#[50, 48, 48, 48, 45, 48, 49, 45, 48, 48]⟩, Value.string ⟨#[50, 48, 48, 48, 45, 48, 49, 45, 51, 50]⟩] 9)) = W7 at *
          generalize wr.heap.size = t at *
          clear hbT ho hi1
          go_wp2_with fail
          go_loopw [8] (fun iv wr => ∃ (i : Nat), i ≤ 20 ∧ iv = .int .i64 i ∧ TRow t wr ∧ Ok W wr) (fun iv _ => 20 - (intOf iv).toNat)
          case atStart => exact ⟨0, by omega, rfl, hT, hoT⟩
          case round =>
            clear hT hoT
            obtain ⟨i, hi6, rfl, hT, ho⟩ := hrel
            by_cases hi2 : i < 20
            · have hi1 : (i : Int) < 20 := by omega
              have hi0 : (0 : Int) ≤ (i : Int) := by omega
              have c0 := hT.2 i hi2
              have hsz := ts_size i hi2
              have HT := Lib.hid hT
              have KP : Hid (Calls Tryz.prog 7 #[.string (ts i)] wr fun x w' => x = .returned (.bool true) ∧ Ok wr w') := parse_law _ wr wr (Nat.le_trans hsz (by decide)) (Ok.refl ho.1)
              clear hT hsz
              generalize ts i = s at *
              go_wp2_with (go_at_call 7; refine KP.out.mono ?_; rintro e w' ⟨rfl, hk⟩)
              go_roundw
              case rel =>
                refine ⟨i + 1, by omega, by first | rfl | go_num, ?_, ?_⟩
                · exact HT.out.below hk.2
                · exact ho.step hk.2
              case measure => simp [intOf]; omega
            · obtain rfl : i = 20 := by omega
              have hi1 : ¬ ((20 : Nat) : Int) < 20 := by omega
              clear hT hi2 hi6
              go_wp2_with (first
                | (go_at_call 20; ((with_reducible refine (c_wd (w := W) (by assumption) 9223372036854775807 (by unfold I64; omega) (v := 5) (by decide +kernel)).mono ?_); rintro e w' ⟨rfl, hk⟩))
                | (go_at_call 20; ((with_reducible refine (c_wd (w := W) (by assumption) (-9223372036854775808) (by unfold I64; omega) (v := 4) (by decide +kernel)).mono ?_); rintro e w' ⟨rfl, hk⟩))
                | (go_at_call 21; ((with_reducible refine (wd_hi _).mono ?_); rintro e w' ⟨rfl, rfl⟩))
                | (go_at_call 21; ((with_reducible refine (wd_lo _).mono ?_); rintro e w' ⟨rfl, rfl⟩))
                | (go_at_call 23; ((with_reducible refine (c_civil (w := W) (by assumption) _ _ _).mono ?_); rintro e w' ⟨rfl, hk⟩))
                | (go_at_call 6; refine (text_law _ _ _ W _ (by unfold I64; omega) (by unfold I64; omega) (by unfold I64; omega) (by assumption)).mono ?_; rintro e w' ⟨rfl, hk⟩)
                | (go_at_call 3; refine (day_law _ _ _ W _ (by unfold I64; omega) (by unfold I64; omega) (by unfold I64; omega) (by assumption)).mono ?_; rintro e w' ⟨rfl, hk⟩)
                | (go_at_call 14; refine (lives_t W _ (by assumption)).mono ?_; rintro e w' ⟨rfl, hk⟩))
              go_ret
              exact ⟨rfl, h.step hk.2⟩
end Go.Proofs.YtiemlpmhhbmfiaaGreatDoor.civ
