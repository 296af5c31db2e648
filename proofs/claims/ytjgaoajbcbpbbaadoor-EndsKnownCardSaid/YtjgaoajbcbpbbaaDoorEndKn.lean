/- The law of the known ends. -/
import Derived.Test.YtjgaoajbcbpbbaaDoorEndTx
import Derived.Test.YtjgaoajbcbpbbaaDoorEndOrdL
import Derived.Test.YtjgaoajbcbpbbaaDoorEndNl
import Derived.IntWalk
namespace Go.Proofs.YtjgaoajbcbpbbaaDoor.end8
open Go.RowKit

def liL : List Int := [-1, 0, 0, 0, 0, 0, 0, 0, 1]
def ldL : List Int := [0, -9223372036854775808, -9223372036854775807, -1, 0, 1, 9223372036854775806, 9223372036854775807, 0]
def wiL : List Int := [-1, 2, -128, 1]
def wdL : List Int := [-1, 0, 0, 9223372036854775807]
def lI (i : Nat) : Int := liL.getD i 0
def lD (i : Nat) : Int := ldL.getD i 0
def wI (i : Nat) : Int := wiL.getD i 0
def wD (i : Nat) : Int := wdL.getD i 0
/-- Rows of ends in a block. -/
def ERow (n : Nat) (f g : Nat → Int) (p : Nat) (X : World) : Prop := p < X.heap.size ∧ ∀ i, i < n → X.cell? ⟨p, i * 2, none⟩ = some (.int .i8 (f i)) ∧ X.cell? ⟨p, i * 2 + 1, none⟩ = some (.int .i64 (g i))
theorem ERow.below {n : Nat} {f g : Nat → Int} {p : Nat} {X Y : World} (h : ERow n f g p X) (hb : Below X.heap.size X Y) : ERow n f g p Y :=
  ⟨Nat.lt_of_lt_of_le h.1 hb.size, fun i hi => ⟨(hb.cell (p := ⟨p, i * 2, none⟩) h.1).trans (h.2 i hi).1, (hb.cell (p := ⟨p, i * 2 + 1, none⟩) h.1).trans (h.2 i hi).2⟩⟩
theorem rows9 (w W : World) (hW : W = w.alloc (Obj.cells #[Value.int IntKind.i8 (-1), Value.int IntKind.i64 0, Value.int IntKind.i8 0, Value.int IntKind.i64 (-9223372036854775808), Value.int IntKind.i8 0, Value.int IntKind.i64 (-9223372036854775807), Value.int IntKind.i8 0, Value.int IntKind.i64 (-1), Value.int IntKind.i8 0, Value.int IntKind.i64 0, Value.int IntKind.i8 0, Value.int IntKind.i64 1, Value.int IntKind.i8 0, Value.int IntKind.i64 9223372036854775806, Value.int IntKind.i8 0, Value.int IntKind.i64 9223372036854775807, Value.int IntKind.i8 1, Value.int IntKind.i64 0] 24)) : ERow 9 lI lD w.heap.size W ∧ Below w.heap.size w W := by
  subst hW
  refine ⟨⟨by simp, fun i hi => ?_⟩, (Below.refl _ _).alloc (Nat.le_refl _) _⟩
  rw [cell_of_row _ _ _ _ _ (0, 0) (heap_alloc_new _ _), cell_of_row _ _ _ _ _ (0, 0) (heap_alloc_new _ _)]
  match i, hi with
  | 0, _ | 1, _ | 2, _ | 3, _ | 4, _ | 5, _ | 6, _ | 7, _ | 8, _ => exact ⟨rfl, rfl⟩
theorem rows4 (w W : World) (hW : W = w.alloc (Obj.cells #[Value.int IntKind.i8 (-1), Value.int IntKind.i64 (-1), Value.int IntKind.i8 2, Value.int IntKind.i64 0, Value.int IntKind.i8 (-128), Value.int IntKind.i64 0, Value.int IntKind.i8 1, Value.int IntKind.i64 9223372036854775807] 24)) : ERow 4 wI wD w.heap.size W ∧ Below w.heap.size w W := by
  subst hW
  refine ⟨⟨by simp, fun i hi => ?_⟩, (Below.refl _ _).alloc (Nat.le_refl _) _⟩
  rw [cell_of_row _ _ _ _ _ (0, 0) (heap_alloc_new _ _), cell_of_row _ _ _ _ _ (0, 0) (heap_alloc_new _ _)]
  match i, hi with
  | 0, _ | 1, _ | 2, _ | 3, _ => exact ⟨rfl, rfl⟩
theorem l_bd (i : Nat) (h : i < 9) : I8 (lI i) ∧ I64 (lD i) := by
  have : ∀ j : Fin 9, (-128 ≤ lI j ∧ lI j ≤ 127) ∧ (-9223372036854775808 ≤ lD j ∧ lD j ≤ 9223372036854775807) := by decide +kernel
  exact this ⟨i, h⟩
theorem w_bd (i : Nat) (h : i < 4) : I8 (wI i) ∧ I64 (wD i) := by
  have : ∀ j : Fin 4, (-128 ≤ wI j ∧ wI j ≤ 127) ∧ (-9223372036854775808 ≤ wD j ∧ wD j ≤ 9223372036854775807) := by decide +kernel
  exact this ⟨i, h⟩
theorem l_cmp (i k : Nat) (hi : i < 9) (hk : k < 9) : (i < k → enC (lI i) (lD i) (lI k) (lD k) = -1) ∧ (i = k → enC (lI i) (lD i) (lI k) (lD k) = 0) ∧ (k < i → enC (lI i) (lD i) (lI k) (lD k) = 1) := by
  have : ∀ a b : Fin 9, (a.val < b.val → enC (lI a) (lD a) (lI b) (lD b) = -1) ∧ (a.val = b.val → enC (lI a) (lD a) (lI b) (lD b) = 0) ∧ (b.val < a.val → enC (lI a) (lD a) (lI b) (lD b) = 1) := by decide +kernel
  exact this ⟨i, hi⟩ ⟨k, hk⟩

set_option maxRecDepth 100000 in
set_option maxHeartbeats 8000000 in
theorem known_law (w W : World) (h : Ok w W) :
    Calls Tryd.prog 7 #[] W fun e w' => e = .returned (.bool true) ∧ Ok w w' := by
  have KL : Hid (∀ B X, Ok B X → Calls Tryd.prog 12 #[] X fun x w' => x = .returned (.bool true) ∧ Ok B w') := fun B X hX => lives_t B X hX
  have KP : Hid (∀ s B X, s.size ≤ 140737488355328 → Ok B X → Calls Tryd.prog 6 #[.string s] X fun x w' => x = .returned (.bool true) ∧ Ok B w') := fun s B X hs hX => parse_law s B X (Nat.le_trans hs (by decide)) hX
  have KT : Hid (∀ i d B X, I8 i → I64 d → Ok B X → Calls Tryd.prog 5 #[E2 i d] X fun x w' => x = .returned (.bool true) ∧ Ok B w') := fun i d B X hi hd hX => text_law i d B X hi hd hX
  have KN : Hid (∀ i d j e B X, I8 i → I64 d → I8 j → I64 e → Ok B X → Calls Tryd.prog 4 #[E2 i d, E2 j e] X fun x w' => x = .returned (.bool true) ∧ Ok B w') := fun i d j e B X hi hd hj he hX => next_law i d j e B X hi hd hj he hX
  have KO : Hid (∀ i d j e k f B X, I8 i → I64 d → I8 j → I64 e → I8 k → I64 f → Ok B X → Calls Tryd.prog 3 #[E2 i d, E2 j e, E2 k f] X fun x w' => x = .returned (.bool true) ∧ Ok B w') := fun i d j e k f B X hi hd hj he hk hf hX => order_law i d j e k f B X hi hd hj he hk hf hX
  have HO := Lib.hid h
  have hr0 := Ok.refl h.1
  clear h
  go_enter Tryd.func7, Tryd.ntmps7
  go_upto_region 2 with fail
  obtain ⟨hL, hbL⟩ := rows9 W _ rfl
  have ho := hr0.step hbL
  generalize (W.alloc (Obj.cells #[Value.int IntKind.i8 (-1), Value.int IntKind.i64 0, Value.int IntKind.i8 0, Value.int IntKind.i64 (-9223372036854775808), Value.int IntKind.i8 0, Value.int IntKind.i64 (-9223372036854775807), Value.int IntKind.i8 0, Value.int IntKind.i64 (-1), Value.int IntKind.i8 0, Value.int IntKind.i64 0, Value.int IntKind.i8 0, Value.int IntKind.i64 1, Value.int IntKind.i8 0, Value.int IntKind.i64 9223372036854775806, Value.int IntKind.i8 0, Value.int IntKind.i64 9223372036854775807, Value.int IntKind.i8 1, Value.int IntKind.i64 0] 24)) = W1 at *
  generalize W.heap.size = p at *
  clear hr0 hbL
  go_upto_region 3 with fail
  go_loopw [2, 3, 4] (fun iv kv nv wr => ∃ (i : Nat) (k n : Value), i ≤ 9 ∧ iv = .int .i64 i ∧ kv = k ∧ nv = n ∧ ERow 9 lI lD p wr ∧ Ok W wr) (fun iv _ _ _ => 9 - (intOf iv).toNat)
  case atStart => exact ⟨0, _, _, by omega, rfl, rfl, rfl, hL, ho⟩
  case round =>
    clear hL ho
    obtain ⟨i, k0, n0, hi9, rfl, rfl, rfl, hL, ho⟩ := hrel
    by_cases hi2 : i < 9
    · have hi1 : (i : Int) < 9 := by omega
      have hi0 : (0 : Int) ≤ (i : Int) := by omega
      go_upto_region 6 with fail
      go_loopw [3, 4] (fun kv nv wr => ∃ (k : Nat) (n : Value), k ≤ 9 ∧ kv = .int .i64 k ∧ nv = n ∧ ERow 9 lI lD p wr ∧ Ok W wr) (fun kv _ _ => 9 - (intOf kv).toNat)
      case atStart => exact ⟨0, _, by omega, rfl, rfl, hL, ho⟩
      case round =>
        clear hL ho
        obtain ⟨k, n1, hk9, rfl, rfl, hL, ho⟩ := hrel
        by_cases hk2 : k < 9
        · have hk1 : (k : Int) < 9 := by omega
          have hk0 : (0 : Int) ≤ (k : Int) := by omega
          rcases Nat.lt_trichotomy i k with g | g | g
          · have hc := (l_cmp i k hi2 hk2).1 g
            have d1 : decide ((i : Int) < (k : Int)) = true := decide_eq_true (by omega)
            have d2 : ((i : Int) == (k : Int)) = false := by rw [beq_eq_false_iff_ne]; omega
            have d3 : decide (k < i) = false := decide_eq_false (by omega)
            obtain ⟨bi1, bi2⟩ := l_bd i hi2
            obtain ⟨bk1, bk2⟩ := l_bd k hk2
            have hr9' : (i + k) % 9 < 9 := Nat.mod_lt _ (by decide)
            have hrm1' : ((i : Int) + (k : Int)) % 9 = (((i + k) % 9 : Nat) : Int) := by omega
            have hrm2' : ((i : Int) + (k : Int)).tmod 9 = (((i + k) % 9 : Nat) : Int) := by rw [Int.tmod_eq_emod_of_nonneg (by omega)]; exact hrm1'
            have hs1 : IntKind.i64.wrap ((i : Int) + (k : Int)) = (i : Int) + (k : Int) := IntWalk.i64_in _ (by omega)
            obtain ⟨r, hr9, hrm1, hrm2⟩ : ∃ r : Nat, r < 9 ∧ ((i : Int) + (k : Int)) % 9 = (r : Int) ∧ ((i : Int) + (k : Int)).tmod 9 = (r : Int) := ⟨_, hr9', hrm1', hrm2'⟩
            clear hr9' hrm1' hrm2'
            have hrb0 : (0 : Int) ≤ (r : Int) := by omega
            have hrb1 : (r : Int) < 9 := by omega
            obtain ⟨br1, br2⟩ := l_bd r hr9
            have hr := Ok.refl ho.1
            obtain ⟨fi0, fi1⟩ := (hL).2 i hi2
            obtain ⟨fk0, fk1⟩ := (hL).2 k hk2
            obtain ⟨fr0, fr1⟩ := (hL).2 r hr9
            have CC : Hid (∀ B X, Ok B X → Calls Tryd.prog 8 #[E2 (lI i) (lD i), E2 (lI k) (lD k)] X fun x w' => x = .returned (.int .i64 (-1)) ∧ Ok B w') := fun B X hX => c_cmp hX _ _ _ _ bi1 bi2 bk1 bk2 hc
            have CN : Hid (∀ B X, Ok B X → Calls Tryd.prog 4 #[E2 (lI i) (lD i), E2 (lI k) (lD k)] X fun x w' => x = .returned (.bool true) ∧ Ok B w') := fun B X hX => KN.out _ _ _ _ B X bi1 bi2 bk1 bk2 hX
            have CO : Hid (∀ B X, Ok B X → Calls Tryd.prog 3 #[E2 (lI i) (lD i), E2 (lI k) (lD k), E2 (lI r) (lD r)] X fun x w' => x = .returned (.bool true) ∧ Ok B w') := fun B X hX => KO.out _ _ _ _ _ _ B X bi1 bi2 bk1 bk2 br1 br2 hX
            clear bi1 bi2 bk1 bk2 br1 br2 hc
            go_upto_region 8 with fail
            go_region_held3 (fun x => x.cell? ⟨p, i * 2, none⟩ = some (.int .i8 (lI i)) ∧ x.cell? ⟨p, i * 2 + 1, none⟩ = some (.int .i64 (lD i)) ∧ x.cell? ⟨p, k * 2, none⟩ = some (.int .i8 (lI k)) ∧ x.cell? ⟨p, k * 2 + 1, none⟩ = some (.int .i64 (lD k))) (go_keep)
              (first
                | (go_at_call 8; ((with_reducible refine (CC.out _ _ (hr.step (by go_grown))).mono ?_); rintro e1 w' ⟨rfl, hk3⟩; (try clear hX); have hX := hk3.2; (try clear mi0 mi1 mk0 mk1 mr0 mr1); obtain ⟨mi0, mi1⟩ := (hL.below hX).2 i hi2; obtain ⟨mk0, mk1⟩ := (hL.below hX).2 k hk2; obtain ⟨mr0, mr1⟩ := (hL.below hX).2 r hr9; clear hk3)))
            all_goals
              have ob := ho.step hX
              have hLb := hL.below hX
              clear ho hL hr hX CC mi0 mi1 mk0 mk1 mr0 mr1 fi0 fi1 fk0 fk1 fr0 fr1
              have hr := Ok.refl ob.1
              have ho := ob
              have hL := hLb
              clear ob hLb
              obtain ⟨fi0, fi1⟩ := (hL).2 i hi2
              obtain ⟨fk0, fk1⟩ := (hL).2 k hk2
              obtain ⟨fr0, fr1⟩ := (hL).2 r hr9
              go_upto_region 9 with fail
              refine wp_region_noPanic ?_
              refine wp_region_held_drew (S := (fun x => x.cell? ⟨p, i * 2, none⟩ = some (.int .i8 (lI i)) ∧ x.cell? ⟨p, i * 2 + 1, none⟩ = some (.int .i64 (lD i)) ∧ x.cell? ⟨p, k * 2, none⟩ = some (.int .i8 (lI k)) ∧ x.cell? ⟨p, k * 2 + 1, none⟩ = some (.int .i64 (lD k)) ∧ x.cell? ⟨p, r * 2, none⟩ = some (.int .i8 (lI r)) ∧ x.cell? ⟨p, r * 2 + 1, none⟩ = some (.int .i64 (lD r)))) (by kernel_rfl) ?_ (fun hHeld => ?_)
              · (try dsimp only)
                go_keep
              refine wpAnyH_take (i := 0) (oi := ?oi0x) (v := ?v0x) ?hi0x (by kernel_rfl) (by kernel_rfl) (by kernel_rfl) ?hQ0x ?hy0x (by assumption) ?rest0x
              case hi0x => (simp only [List.getElem?_toArray, List.getElem?_cons_zero]; rfl)
              case hQ0x => exact fun _ _ _ h => h
              case hy0x => exact Or.inl ⟨by rfl, by (intro w hSw; (try dsimp only at hSw); go_simp; try with_reducible rfl)⟩
              (try simp only [Act.put, List.setIfInBounds_toArray, List.set_cons_zero, List.set_cons_succ])
              refine wpAnyH_take (i := 1) (oi := ?oi1x) (v := ?v1x) ?hi1x (by kernel_rfl) (by kernel_rfl) (by kernel_rfl) ?hQ1x ?hy1x (by assumption) ?rest1x
              case hi1x => (simp only [List.getElem?_toArray, List.getElem?_cons_succ, List.getElem?_cons_zero]; rfl)
              case hQ1x => exact fun _ _ _ h => h
              case hy1x => exact Or.inl ⟨by rfl, by (intro w hSw; (try dsimp only at hSw); go_simp; try with_reducible rfl)⟩
              (try simp only [Act.put, List.setIfInBounds_toArray, List.set_cons_zero, List.set_cons_succ])
              refine wpAnyH_take (i := 2) (oi := ?oi2x) (v := ?v2x) ?hi2x (by kernel_rfl) (by kernel_rfl) (by kernel_rfl) ?hQ2x ?hy2x (by assumption) ?rest2x
              case hi2x => (simp only [List.getElem?_toArray, List.getElem?_cons_succ, List.getElem?_cons_zero]; rfl)
              case hQ2x => exact fun _ _ _ h => h
              case hy2x => exact Or.inl ⟨by rfl, by (intro w hSw; (try dsimp only at hSw); go_simp; try with_reducible rfl)⟩
              (try simp only [Act.put, List.setIfInBounds_toArray, List.set_cons_zero, List.set_cons_succ])
              refine wpAnyH_take (i := 3) (oi := ?oi3x) (v := ?v3x) ?hi3x (by kernel_rfl) (by kernel_rfl) (by kernel_rfl) ?hQ3x ?hy3x (by assumption) ?rest3x
              case hi3x => (simp only [List.getElem?_toArray, List.getElem?_cons_succ, List.getElem?_cons_zero]; rfl)
              case hQ3x => exact fun _ _ _ h => h
              case hy3x => exact Or.inl ⟨by rfl, by (intro w hSw; (try dsimp only at hSw); go_simp; try with_reducible rfl)⟩
              (try simp only [Act.put, List.setIfInBounds_toArray, List.set_cons_zero, List.set_cons_succ])
              refine wpAnyH_take (i := 4) (oi := ?oi4x) (v := ?v4x) ?hi4x (by kernel_rfl) (by kernel_rfl) (by kernel_rfl) ?hQ4x ?hy4x (by assumption) ?rest4x
              case hi4x => (simp only [List.getElem?_toArray, List.getElem?_cons_succ, List.getElem?_cons_zero]; rfl)
              case hQ4x => exact fun _ _ _ h => h
              case hy4x => exact Or.inl ⟨by rfl, by (intro w hSw; (try dsimp only at hSw); go_simp; try with_reducible rfl)⟩
              (try simp only [Act.put, List.setIfInBounds_toArray, List.set_cons_zero, List.set_cons_succ])
              refine wpAnyH_take (i := 5) (oi := ?oi5x) (v := ?v5x) ?hi5x (by kernel_rfl) (by kernel_rfl) (by kernel_rfl) ?hQ5x ?hy5x (by assumption) ?rest5x
              case hi5x => (simp only [List.getElem?_toArray, List.getElem?_cons_succ, List.getElem?_cons_zero]; rfl)
              case hQ5x => exact fun _ _ _ h => h
              case hy5x => exact Or.inl ⟨by rfl, by (intro w hSw; (try dsimp only at hSw); go_simp; try with_reducible rfl)⟩
              (try simp only [Act.put, List.setIfInBounds_toArray, List.set_cons_zero, List.set_cons_succ])
              refine wpAnyH_take (i := 6) (oi := ?oi6x) (v := ?v6x) ?hi6x (by kernel_rfl) (by kernel_rfl) (by kernel_rfl) ?hQ6x ?hy6x (by assumption) ?rest6x
              case hi6x => (simp only [List.getElem?_toArray, List.getElem?_cons_succ, List.getElem?_cons_zero]; rfl)
              case hQ6x => exact fun _ _ _ h => h
              case hy6x => exact Or.inl ⟨by rfl, by (intro w hSw; (try dsimp only at hSw); go_simp; try with_reducible rfl)⟩
              (try simp only [Act.put, List.setIfInBounds_toArray, List.set_cons_zero, List.set_cons_succ])
              refine wpAnyH_take (i := 7) (oi := ?oi7x) (v := ?v7x) ?hi7x (by kernel_rfl) (by kernel_rfl) (by kernel_rfl) ?hQ7x ?hy7x (by assumption) ?rest7x
              case hi7x => (simp only [List.getElem?_toArray, List.getElem?_cons_succ, List.getElem?_cons_zero]; rfl)
              case hQ7x => exact fun _ _ _ h => h
              case hy7x => exact Or.inl ⟨by rfl, by (intro w hSw; (try dsimp only at hSw); go_simp; try with_reducible rfl)⟩
              (try simp only [Act.put, List.setIfInBounds_toArray, List.set_cons_zero, List.set_cons_succ])
              refine wpAnyH_take (i := 8) (oi := ?oi8x) (v := ?v8x) ?hi8x (by kernel_rfl) (by kernel_rfl) (by kernel_rfl) ?hQ8x ?hy8x (by assumption) ?rest8x
              case hi8x => (simp only [List.getElem?_toArray, List.getElem?_cons_succ, List.getElem?_cons_zero]; rfl)
              case hQ8x => exact fun _ _ _ h => h
              case hy8x => exact Or.inl ⟨by rfl, by (intro w hSw; (try dsimp only at hSw); go_simp; try with_reducible rfl)⟩
              (try simp only [Act.put, List.setIfInBounds_toArray, List.set_cons_zero, List.set_cons_succ])
              refine wpAnyH_take (i := 9) (oi := ?oi9x) (v := ?v9x) ?hi9x (by kernel_rfl) (by kernel_rfl) (by kernel_rfl) ?hQ9x ?hy9x (by assumption) ?rest9x
              case hi9x => (simp only [List.getElem?_toArray, List.getElem?_cons_succ, List.getElem?_cons_zero]; rfl)
              case hQ9x => exact fun _ _ _ h => h
              case hy9x => exact Or.inl ⟨by rfl, by (intro w hSw; (try dsimp only at hSw); go_simp; try with_reducible rfl)⟩
              (try simp only [Act.put, List.setIfInBounds_toArray, List.set_cons_zero, List.set_cons_succ])
              refine wpAnyH_take (i := 10) (oi := ?oi10x) (v := ?v10x) ?hi10x (by kernel_rfl) (by kernel_rfl) (by kernel_rfl) ?hQ10x ?hy10x (by assumption) ?rest10x
              case hi10x => (simp only [List.getElem?_toArray, List.getElem?_cons_succ, List.getElem?_cons_zero]; rfl)
              case hQ10x => exact fun _ _ _ h => h
              case hy10x => exact Or.inl ⟨by rfl, by (intro w hSw; (try dsimp only at hSw); go_simp; try with_reducible rfl)⟩
              (try simp only [Act.put, List.setIfInBounds_toArray, List.set_cons_zero, List.set_cons_succ])
              refine wpAnyH_take (i := 11) (oi := ?oi11x) (v := ?v11x) ?hi11x (by kernel_rfl) (by kernel_rfl) (by kernel_rfl) ?hQ11x ?hy11x (by assumption) ?rest11x
              case hi11x => (simp only [List.getElem?_toArray, List.getElem?_cons_succ, List.getElem?_cons_zero]; rfl)
              case hQ11x => exact fun _ _ _ h => h
              case hy11x => exact Or.inl ⟨by rfl, by (intro w hSw; (try dsimp only at hSw); go_simp; try with_reducible rfl)⟩
              (try simp only [Act.put, List.setIfInBounds_toArray, List.set_cons_zero, List.set_cons_succ])
              refine wpAnyH_take (i := 12) (oi := ?oi12x) (v := undef) ?hi12x (by kernel_rfl) (by kernel_rfl) (by kernel_rfl) ?hQ12x ?hy12x (by assumption) ?rest12x
              case hi12x => (simp only [List.getElem?_toArray, List.getElem?_cons_succ, List.getElem?_cons_zero]; rfl)
              case hQ12x => exact fun _ _ _ h => h
              case hy12x => exact Or.inr ⟨by rfl, rfl⟩
              (try simp only [Act.put, List.setIfInBounds_toArray, List.set_cons_zero, List.set_cons_succ])
              refine wpAnyH_take (i := 13) (oi := ?oi13x) (v := undef) ?hi13x (by kernel_rfl) (by kernel_rfl) (by kernel_rfl) ?hQ13x ?hy13x (by assumption) ?rest13x
              case hi13x => (simp only [List.getElem?_toArray, List.getElem?_cons_succ, List.getElem?_cons_zero]; rfl)
              case hQ13x => exact fun _ _ _ h => h
              case hy13x => exact Or.inr ⟨by rfl, rfl⟩
              (try simp only [Act.put, List.setIfInBounds_toArray, List.set_cons_zero, List.set_cons_succ])
              refine wpAnyH_take (i := 14) (oi := ?oi14x) (v := ?v14x) ?hi14x (by kernel_rfl) (by kernel_rfl) (by kernel_rfl) ?hQ14x ?hy14x (by assumption) ?rest14x
              case hi14x => (simp only [List.getElem?_toArray, List.getElem?_cons_succ, List.getElem?_cons_zero]; rfl)
              case hQ14x => exact fun _ _ _ h => h
              case hy14x => exact Or.inl ⟨by rfl, by (intro w hSw; (try dsimp only at hSw); go_simp; try with_reducible rfl)⟩
              (try simp only [Act.put, List.setIfInBounds_toArray, List.set_cons_zero, List.set_cons_succ])
              refine wpAnyH_take (i := 15) (oi := ?oi15x) (v := ?v15x) ?hi15x (by kernel_rfl) (by kernel_rfl) (by kernel_rfl) ?hQ15x ?hy15x (by assumption) ?rest15x
              case hi15x => (simp only [List.getElem?_toArray, List.getElem?_cons_succ, List.getElem?_cons_zero]; rfl)
              case hQ15x => exact fun _ _ _ h => h
              case hy15x => exact Or.inl ⟨by rfl, by (intro w hSw; (try dsimp only at hSw); go_simp; try with_reducible rfl)⟩
              (try simp only [Act.put, List.setIfInBounds_toArray, List.set_cons_zero, List.set_cons_succ])
              refine wpAnyH_take (i := 16) (oi := ?oi16x) (v := ?v16x) ?hi16x (by kernel_rfl) (by kernel_rfl) (by kernel_rfl) ?hQ16x ?hy16x (by assumption) ?rest16x
              case hi16x => (simp only [List.getElem?_toArray, List.getElem?_cons_succ, List.getElem?_cons_zero]; rfl)
              case hQ16x => exact fun _ _ _ h => h
              case hy16x => exact Or.inl ⟨by rfl, by (intro w hSw; (try dsimp only at hSw); go_simp; try with_reducible rfl)⟩
              (try simp only [Act.put, List.setIfInBounds_toArray, List.set_cons_zero, List.set_cons_succ])
              refine wpAnyH_take (i := 17) (oi := ?oi17x) (v := ?v17x) ?hi17x (by kernel_rfl) (by kernel_rfl) (by kernel_rfl) ?hQ17x ?hy17x (by assumption) ?rest17x
              case hi17x => (simp only [List.getElem?_toArray, List.getElem?_cons_succ, List.getElem?_cons_zero]; rfl)
              case hQ17x => exact fun _ _ _ h => h
              case hy17x => exact Or.inl ⟨by rfl, by (intro w hSw; (try dsimp only at hSw); go_simp; try with_reducible rfl)⟩
              (try simp only [Act.put, List.setIfInBounds_toArray, List.set_cons_zero, List.set_cons_succ])
              refine wpAnyH_take (i := 18) (oi := ?oi18x) (v := ?v18x) ?hi18x (by kernel_rfl) (by kernel_rfl) (by kernel_rfl) ?hQ18x ?hy18x (by assumption) ?rest18x
              case hi18x => (simp only [List.getElem?_toArray, List.getElem?_cons_succ, List.getElem?_cons_zero]; rfl)
              case hQ18x => exact fun _ _ _ h => h
              case hy18x => exact Or.inl ⟨by rfl, by (intro w hSw; (try dsimp only at hSw); go_simp; try with_reducible rfl)⟩
              (try simp only [Act.put, List.setIfInBounds_toArray, List.set_cons_zero, List.set_cons_succ])
              refine wpAnyH_take (i := 19) (oi := ?oi19x) (v := ?v19x) ?hi19x (by kernel_rfl) (by kernel_rfl) (by kernel_rfl) ?hQ19x ?hy19x (by assumption) ?rest19x
              case hi19x => (simp only [List.getElem?_toArray, List.getElem?_cons_succ, List.getElem?_cons_zero]; rfl)
              case hQ19x => exact fun _ _ _ h => h
              case hy19x => exact Or.inl ⟨by rfl, by (intro w hSw; (try dsimp only at hSw); go_simp; try with_reducible rfl)⟩
              (try simp only [Act.put, List.setIfInBounds_toArray, List.set_cons_zero, List.set_cons_succ])
              refine wpAnyH_take (i := 20) (oi := ?oi20x) (v := ?v20x) ?hi20x (by kernel_rfl) (by kernel_rfl) (by kernel_rfl) ?hQ20x ?hy20x (by assumption) ?rest20x
              case hi20x => (simp only [List.getElem?_toArray, List.getElem?_cons_succ, List.getElem?_cons_zero]; rfl)
              case hQ20x => exact fun _ _ _ h => h
              case hy20x => exact Or.inl ⟨by rfl, by (intro w hSw; (try dsimp only at hSw); go_simp; try with_reducible rfl)⟩
              (try simp only [Act.put, List.setIfInBounds_toArray, List.set_cons_zero, List.set_cons_succ])
              refine wpAnyH_take (i := 21) (oi := ?oi21x) (v := undef) ?hi21x (by kernel_rfl) (by kernel_rfl) (by kernel_rfl) ?hQ21x ?hy21x (by assumption) ?rest21x
              case hi21x => (simp only [List.getElem?_toArray, List.getElem?_cons_succ, List.getElem?_cons_zero]; rfl)
              case hQ21x => exact fun _ _ _ h => h
              case hy21x => exact Or.inr ⟨by rfl, rfl⟩
              (try simp only [Act.put, List.setIfInBounds_toArray, List.set_cons_zero, List.set_cons_succ])
              refine wpAnyH_take (i := 22) (oi := ?oi22x) (v := undef) ?hi22x (by kernel_rfl) (by kernel_rfl) (by kernel_rfl) ?hQ22x ?hy22x (by assumption) ?rest22x
              case hi22x => (simp only [List.getElem?_toArray, List.getElem?_cons_succ, List.getElem?_cons_zero]; rfl)
              case hQ22x => exact fun _ _ _ h => h
              case hy22x => exact Or.inr ⟨by rfl, rfl⟩
              (try simp only [Act.put, List.setIfInBounds_toArray, List.set_cons_zero, List.set_cons_succ])
              refine wpAnyH_take (i := 23) (oi := ?oi23x) (v := ?v23x) ?hi23x (by kernel_rfl) (by kernel_rfl) (by kernel_rfl) ?hQ23x ?hy23x (by assumption) ?rest23x
              case hi23x => (simp only [List.getElem?_toArray, List.getElem?_cons_succ, List.getElem?_cons_zero]; rfl)
              case hQ23x => exact fun _ _ _ h => h
              case hy23x => exact Or.inl ⟨by rfl, by (intro w hSw; (try dsimp only at hSw); go_simp; try with_reducible rfl)⟩
              (try simp only [Act.put, List.setIfInBounds_toArray, List.set_cons_zero, List.set_cons_succ])
              refine wpAnyH_take (i := 24) (oi := ?oi24x) (v := ?v24x) ?hi24x (by kernel_rfl) (by kernel_rfl) (by kernel_rfl) ?hQ24x ?hy24x (by assumption) ?rest24x
              case hi24x => (simp only [List.getElem?_toArray, List.getElem?_cons_succ, List.getElem?_cons_zero]; rfl)
              case hQ24x => exact fun _ _ _ h => h
              case hy24x => exact Or.inl ⟨by rfl, by (intro w hSw; (try dsimp only at hSw); go_simp; try with_reducible rfl)⟩
              (try simp only [Act.put, List.setIfInBounds_toArray, List.set_cons_zero, List.set_cons_succ])
              refine wpAnyH_take (i := 25) (oi := ?oi25x) (v := ?v25x) ?hi25x (by kernel_rfl) (by kernel_rfl) (by kernel_rfl) ?hQ25x ?hy25x (by assumption) ?rest25x
              case hi25x => (simp only [List.getElem?_toArray, List.getElem?_cons_succ, List.getElem?_cons_zero]; rfl)
              case hQ25x => exact fun _ _ _ h => h
              case hy25x => exact Or.inl ⟨by rfl, by (intro w hSw; (try dsimp only at hSw); go_simp; try with_reducible rfl)⟩
              (try simp only [Act.put, List.setIfInBounds_toArray, List.set_cons_zero, List.set_cons_succ])
              refine wpAnyH_take (i := 26) (oi := ?oi26x) (v := ?v26x) ?hi26x (by kernel_rfl) (by kernel_rfl) (by kernel_rfl) ?hQ26x ?hy26x (by assumption) ?rest26x
              case hi26x => (simp only [List.getElem?_toArray, List.getElem?_cons_succ, List.getElem?_cons_zero]; rfl)
              case hQ26x => exact fun _ _ _ h => h
              case hy26x => exact Or.inl ⟨by rfl, by (intro w hSw; (try dsimp only at hSw); go_simp; try with_reducible rfl)⟩
              (try simp only [Act.put, List.setIfInBounds_toArray, List.set_cons_zero, List.set_cons_succ])
              refine wpAnyH_take (i := 27) (oi := ?oi27x) (v := ?v27x) ?hi27x (by kernel_rfl) (by kernel_rfl) (by kernel_rfl) ?hQ27x ?hy27x (by assumption) ?rest27x
              case hi27x => (simp only [List.getElem?_toArray, List.getElem?_cons_succ, List.getElem?_cons_zero]; rfl)
              case hQ27x => exact fun _ _ _ h => h
              case hy27x => exact Or.inl ⟨by rfl, by (intro w hSw; (try dsimp only at hSw); go_simp; try with_reducible rfl)⟩
              (try simp only [Act.put, List.setIfInBounds_toArray, List.set_cons_zero, List.set_cons_succ])
              refine wpAnyH_take (i := 28) (oi := ?oi28x) (v := ?v28x) ?hi28x (by kernel_rfl) (by kernel_rfl) (by kernel_rfl) ?hQ28x ?hy28x (by assumption) ?rest28x
              case hi28x => (simp only [List.getElem?_toArray, List.getElem?_cons_succ, List.getElem?_cons_zero]; rfl)
              case hQ28x => exact fun _ _ _ h => h
              case hy28x => exact Or.inl ⟨by rfl, by (intro w hSw; (try dsimp only at hSw); go_simp; try with_reducible rfl)⟩
              (try simp only [Act.put, List.setIfInBounds_toArray, List.set_cons_zero, List.set_cons_succ])
              refine wpAnyH_take (i := 29) (oi := ?oi29x) (v := ?v29x) ?hi29x (by kernel_rfl) (by kernel_rfl) (by kernel_rfl) ?hQ29x ?hy29x (by assumption) ?rest29x
              case hi29x => (simp only [List.getElem?_toArray, List.getElem?_cons_succ, List.getElem?_cons_zero]; rfl)
              case hQ29x => exact fun _ _ _ h => h
              case hy29x => exact Or.inl ⟨by rfl, by (intro w hSw; (try dsimp only at hSw); go_simp; try with_reducible rfl)⟩
              (try simp only [Act.put, List.setIfInBounds_toArray, List.set_cons_zero, List.set_cons_succ])
              refine wpAnyH_take (i := 30) (oi := ?oi30x) (v := ?v30x) ?hi30x (by kernel_rfl) (by kernel_rfl) (by kernel_rfl) ?hQ30x ?hy30x (by assumption) ?rest30x
              case hi30x => (simp only [List.getElem?_toArray, List.getElem?_cons_succ, List.getElem?_cons_zero]; rfl)
              case hQ30x => exact fun _ _ _ h => h
              case hy30x => exact Or.inl ⟨by rfl, by (intro w hSw; (try dsimp only at hSw); go_simp; try with_reducible rfl)⟩
              (try simp only [Act.put, List.setIfInBounds_toArray, List.set_cons_zero, List.set_cons_succ])
              refine wpAnyH_take (i := 31) (oi := ?oi31x) (v := ?v31x) ?hi31x (by kernel_rfl) (by kernel_rfl) (by kernel_rfl) ?hQ31x ?hy31x (by assumption) ?rest31x
              case hi31x => (simp only [List.getElem?_toArray, List.getElem?_cons_succ, List.getElem?_cons_zero]; rfl)
              case hQ31x => exact fun _ _ _ h => h
              case hy31x => exact Or.inl ⟨by rfl, by (intro w hSw; (try dsimp only at hSw); go_simp; try with_reducible rfl)⟩
              (try simp only [Act.put, List.setIfInBounds_toArray, List.set_cons_zero, List.set_cons_succ])
              refine wpAnyH_take (i := 32) (oi := ?oi32x) (v := ?v32x) ?hi32x (by kernel_rfl) (by kernel_rfl) (by kernel_rfl) ?hQ32x ?hy32x (by assumption) ?rest32x
              case hi32x => (simp only [List.getElem?_toArray, List.getElem?_cons_succ, List.getElem?_cons_zero]; rfl)
              case hQ32x => exact fun _ _ _ h => h
              case hy32x => exact Or.inl ⟨by rfl, by (intro w hSw; (try dsimp only at hSw); go_simp; try with_reducible rfl)⟩
              (try simp only [Act.put, List.setIfInBounds_toArray, List.set_cons_zero, List.set_cons_succ])
              refine wpAnyH_take (i := 33) (oi := ?oi33x) (v := ?v33x) ?hi33x (by kernel_rfl) (by kernel_rfl) (by kernel_rfl) ?hQ33x ?hy33x (by assumption) ?rest33x
              case hi33x => (simp only [List.getElem?_toArray, List.getElem?_cons_succ, List.getElem?_cons_zero]; rfl)
              case hQ33x => exact fun _ _ _ h => h
              case hy33x => exact Or.inl ⟨by rfl, by (intro w hSw; (try dsimp only at hSw); go_simp; try with_reducible rfl)⟩
              (try simp only [Act.put, List.setIfInBounds_toArray, List.set_cons_zero, List.set_cons_succ])
              refine wpAnyH_ready (rs := [34]) (by kernel_rfl) (by simp) ?_
              refine AllReadyH.cons (o := ?oi34x) ?ho34x ?hK34x AllReadyH.nil
              case ho34x => (simp only [List.getElem?_toArray, List.getElem?_cons_succ, List.getElem?_cons_zero]; rfl)
              intro K hK
              go_simp
              (first
                      | (go_at_call 4; ((with_reducible refine (CN.out _ _ (hr.step (by go_grown))).mono ?_); rintro e1 w' ⟨rfl, hk3⟩; (try clear hX); have hX := hk3.2; (try clear mi0 mi1 mk0 mk1 mr0 mr1); obtain ⟨mi0, mi1⟩ := (hL.below hX).2 i hi2; obtain ⟨mk0, mk1⟩ := (hL.below hX).2 k hk2; obtain ⟨mr0, mr1⟩ := (hL.below hX).2 r hr9; clear hk3))
                      | (go_at_call 3; ((with_reducible refine (CO.out _ _ (hr.step (by go_grown))).mono ?_); rintro e1 w' ⟨rfl, hk3⟩; (try clear hX); have hX := hk3.2; (try clear mi0 mi1 mk0 mk1 mr0 mr1); obtain ⟨mi0, mi1⟩ := (hL.below hX).2 i hi2; obtain ⟨mk0, mk1⟩ := (hL.below hX).2 k hk2; obtain ⟨mr0, mr1⟩ := (hL.below hX).2 r hr9; clear hk3)))
              (try go_wp2_with fail)
              refine hK.out _ _ ?_ (fun hHeld => ?_)
              · (try dsimp only)
                go_keep
              clear hK K
              (try simp only [Act.put, List.setIfInBounds_toArray, List.set_cons_zero, List.set_cons_succ])
              refine wpAnyH_take (i := 35) (oi := ?oi35x) (v := ?v35x) ?hi35x (by kernel_rfl) (by kernel_rfl) (by kernel_rfl) ?hQ35x ?hy35x (by assumption) ?rest35x
              case hi35x => (simp only [List.getElem?_toArray, List.getElem?_cons_succ, List.getElem?_cons_zero]; rfl)
              case hQ35x => exact fun _ _ _ h => h
              case hy35x => exact Or.inl ⟨by rfl, by (intro w hSw; (try dsimp only at hSw); go_simp; try with_reducible rfl)⟩
              (try simp only [Act.put, List.setIfInBounds_toArray, List.set_cons_zero, List.set_cons_succ])
              refine wpAnyH_take (i := 36) (oi := ?oi36x) (v := ?v36x) ?hi36x (by kernel_rfl) (by kernel_rfl) (by kernel_rfl) ?hQ36x ?hy36x (by assumption) ?rest36x
              case hi36x => (simp only [List.getElem?_toArray, List.getElem?_cons_succ, List.getElem?_cons_zero]; rfl)
              case hQ36x => exact fun _ _ _ h => h
              case hy36x => exact Or.inl ⟨by rfl, by (intro w hSw; (try dsimp only at hSw); go_simp; try with_reducible rfl)⟩
              (try simp only [Act.put, List.setIfInBounds_toArray, List.set_cons_zero, List.set_cons_succ])
              refine wpAnyH_take (i := 37) (oi := ?oi37x) (v := ?v37x) ?hi37x (by kernel_rfl) (by kernel_rfl) (by kernel_rfl) ?hQ37x ?hy37x (by assumption) ?rest37x
              case hi37x => (simp only [List.getElem?_toArray, List.getElem?_cons_succ, List.getElem?_cons_zero]; rfl)
              case hQ37x => exact fun _ _ _ h => h
              case hy37x => exact Or.inl ⟨by rfl, by (intro w hSw; (try dsimp only at hSw); go_simp; try with_reducible rfl)⟩
              (try simp only [Act.put, List.setIfInBounds_toArray, List.set_cons_zero, List.set_cons_succ])
              refine wpAnyH_take (i := 38) (oi := ?oi38x) (v := ?v38x) ?hi38x (by kernel_rfl) (by kernel_rfl) (by kernel_rfl) ?hQ38x ?hy38x (by assumption) ?rest38x
              case hi38x => (simp only [List.getElem?_toArray, List.getElem?_cons_succ, List.getElem?_cons_zero]; rfl)
              case hQ38x => exact fun _ _ _ h => h
              case hy38x => exact Or.inl ⟨by rfl, by (intro w hSw; (try dsimp only at hSw); go_simp; try with_reducible rfl)⟩
              (try simp only [Act.put, List.setIfInBounds_toArray, List.set_cons_zero, List.set_cons_succ])
              refine wpAnyH_take (i := 39) (oi := ?oi39x) (v := ?v39x) ?hi39x (by kernel_rfl) (by kernel_rfl) (by kernel_rfl) ?hQ39x ?hy39x (by assumption) ?rest39x
              case hi39x => (simp only [List.getElem?_toArray, List.getElem?_cons_succ, List.getElem?_cons_zero]; rfl)
              case hQ39x => exact fun _ _ _ h => h
              case hy39x => exact Or.inl ⟨by rfl, by (intro w hSw; (try dsimp only at hSw); go_simp; try with_reducible rfl)⟩
              (try simp only [Act.put, List.setIfInBounds_toArray, List.set_cons_zero, List.set_cons_succ])
              refine wpAnyH_take (i := 40) (oi := ?oi40x) (v := ?v40x) ?hi40x (by kernel_rfl) (by kernel_rfl) (by kernel_rfl) ?hQ40x ?hy40x (by assumption) ?rest40x
              case hi40x => (simp only [List.getElem?_toArray, List.getElem?_cons_succ, List.getElem?_cons_zero]; rfl)
              case hQ40x => exact fun _ _ _ h => h
              case hy40x => exact Or.inl ⟨by rfl, by (intro w hSw; (try dsimp only at hSw); go_simp; try with_reducible rfl)⟩
              (try simp only [Act.put, List.setIfInBounds_toArray, List.set_cons_zero, List.set_cons_succ])
              refine wpAnyH_take (i := 41) (oi := ?oi41x) (v := ?v41x) ?hi41x (by kernel_rfl) (by kernel_rfl) (by kernel_rfl) ?hQ41x ?hy41x (by assumption) ?rest41x
              case hi41x => (simp only [List.getElem?_toArray, List.getElem?_cons_succ, List.getElem?_cons_zero]; rfl)
              case hQ41x => exact fun _ _ _ h => h
              case hy41x => exact Or.inl ⟨by rfl, by (intro w hSw; (try dsimp only at hSw); go_simp; try with_reducible rfl)⟩
              (try simp only [Act.put, List.setIfInBounds_toArray, List.set_cons_zero, List.set_cons_succ])
              refine wpAnyH_take (i := 42) (oi := ?oi42x) (v := ?v42x) ?hi42x (by kernel_rfl) (by kernel_rfl) (by kernel_rfl) ?hQ42x ?hy42x (by assumption) ?rest42x
              case hi42x => (simp only [List.getElem?_toArray, List.getElem?_cons_succ, List.getElem?_cons_zero]; rfl)
              case hQ42x => exact fun _ _ _ h => h
              case hy42x => exact Or.inl ⟨by rfl, by (intro w hSw; (try dsimp only at hSw); go_simp; try with_reducible rfl)⟩
              (try simp only [Act.put, List.setIfInBounds_toArray, List.set_cons_zero, List.set_cons_succ])
              refine wpAnyH_take (i := 43) (oi := ?oi43x) (v := ?v43x) ?hi43x (by kernel_rfl) (by kernel_rfl) (by kernel_rfl) ?hQ43x ?hy43x (by assumption) ?rest43x
              case hi43x => (simp only [List.getElem?_toArray, List.getElem?_cons_succ, List.getElem?_cons_zero]; rfl)
              case hQ43x => exact fun _ _ _ h => h
              case hy43x => exact Or.inl ⟨by rfl, by (intro w hSw; (try dsimp only at hSw); go_simp; try with_reducible rfl)⟩
              (try simp only [Act.put, List.setIfInBounds_toArray, List.set_cons_zero, List.set_cons_succ])
              refine wpAnyH_take (i := 44) (oi := ?oi44x) (v := ?v44x) ?hi44x (by kernel_rfl) (by kernel_rfl) (by kernel_rfl) ?hQ44x ?hy44x (by assumption) ?rest44x
              case hi44x => (simp only [List.getElem?_toArray, List.getElem?_cons_succ, List.getElem?_cons_zero]; rfl)
              case hQ44x => exact fun _ _ _ h => h
              case hy44x => exact Or.inl ⟨by rfl, by (intro w hSw; (try dsimp only at hSw); go_simp; try with_reducible rfl)⟩
              (try simp only [Act.put, List.setIfInBounds_toArray, List.set_cons_zero, List.set_cons_succ])
              refine wpAnyH_take (i := 45) (oi := ?oi45x) (v := ?v45x) ?hi45x (by kernel_rfl) (by kernel_rfl) (by kernel_rfl) ?hQ45x ?hy45x (by assumption) ?rest45x
              case hi45x => (simp only [List.getElem?_toArray, List.getElem?_cons_succ, List.getElem?_cons_zero]; rfl)
              case hQ45x => exact fun _ _ _ h => h
              case hy45x => exact Or.inl ⟨by rfl, by (intro w hSw; (try dsimp only at hSw); go_simp; try with_reducible rfl)⟩
              (try simp only [Act.put, List.setIfInBounds_toArray, List.set_cons_zero, List.set_cons_succ])
              refine wpAnyH_take (i := 46) (oi := ?oi46x) (v := ?v46x) ?hi46x (by kernel_rfl) (by kernel_rfl) (by kernel_rfl) ?hQ46x ?hy46x (by assumption) ?rest46x
              case hi46x => (simp only [List.getElem?_toArray, List.getElem?_cons_succ, List.getElem?_cons_zero]; rfl)
              case hQ46x => exact fun _ _ _ h => h
              case hy46x => exact Or.inl ⟨by rfl, by (intro w hSw; (try dsimp only at hSw); go_simp; try with_reducible rfl)⟩
              (try simp only [Act.put, List.setIfInBounds_toArray, List.set_cons_zero, List.set_cons_succ])
              refine wpAnyH_take (i := 47) (oi := ?oi47x) (v := ?v47x) ?hi47x (by kernel_rfl) (by kernel_rfl) (by kernel_rfl) ?hQ47x ?hy47x (by assumption) ?rest47x
              case hi47x => (simp only [List.getElem?_toArray, List.getElem?_cons_succ, List.getElem?_cons_zero]; rfl)
              case hQ47x => exact fun _ _ _ h => h
              case hy47x => exact Or.inl ⟨by rfl, by (intro w hSw; (try dsimp only at hSw); go_simp; try with_reducible rfl)⟩
              (try simp only [Act.put, List.setIfInBounds_toArray, List.set_cons_zero, List.set_cons_succ])
              refine wpAnyH_take (i := 48) (oi := ?oi48x) (v := ?v48x) ?hi48x (by kernel_rfl) (by kernel_rfl) (by kernel_rfl) ?hQ48x ?hy48x (by assumption) ?rest48x
              case hi48x => (simp only [List.getElem?_toArray, List.getElem?_cons_succ, List.getElem?_cons_zero]; rfl)
              case hQ48x => exact fun _ _ _ h => h
              case hy48x => exact Or.inl ⟨by rfl, by (intro w hSw; (try dsimp only at hSw); go_simp; try with_reducible rfl)⟩
              (try simp only [Act.put, List.setIfInBounds_toArray, List.set_cons_zero, List.set_cons_succ])
              refine wpAnyH_take (i := 49) (oi := ?oi49x) (v := ?v49x) ?hi49x (by kernel_rfl) (by kernel_rfl) (by kernel_rfl) ?hQ49x ?hy49x (by assumption) ?rest49x
              case hi49x => (simp only [List.getElem?_toArray, List.getElem?_cons_succ, List.getElem?_cons_zero]; rfl)
              case hQ49x => exact fun _ _ _ h => h
              case hy49x => exact Or.inl ⟨by rfl, by (intro w hSw; (try dsimp only at hSw); go_simp; try with_reducible rfl)⟩
              (try simp only [Act.put, List.setIfInBounds_toArray, List.set_cons_zero, List.set_cons_succ])
              refine wpAnyH_take (i := 50) (oi := ?oi50x) (v := ?v50x) ?hi50x (by kernel_rfl) (by kernel_rfl) (by kernel_rfl) ?hQ50x ?hy50x (by assumption) ?rest50x
              case hi50x => (simp only [List.getElem?_toArray, List.getElem?_cons_succ, List.getElem?_cons_zero]; rfl)
              case hQ50x => exact fun _ _ _ h => h
              case hy50x => exact Or.inl ⟨by rfl, by (intro w hSw; (try dsimp only at hSw); go_simp; try with_reducible rfl)⟩
              (try simp only [Act.put, List.setIfInBounds_toArray, List.set_cons_zero, List.set_cons_succ])
              refine wpAnyH_take (i := 51) (oi := ?oi51x) (v := ?v51x) ?hi51x (by kernel_rfl) (by kernel_rfl) (by kernel_rfl) ?hQ51x ?hy51x (by assumption) ?rest51x
              case hi51x => (simp only [List.getElem?_toArray, List.getElem?_cons_succ, List.getElem?_cons_zero]; rfl)
              case hQ51x => exact fun _ _ _ h => h
              case hy51x => exact Or.inl ⟨by rfl, by (intro w hSw; (try dsimp only at hSw); go_simp; try with_reducible rfl)⟩
              (try simp only [Act.put, List.setIfInBounds_toArray, List.set_cons_zero, List.set_cons_succ])
              refine wpAnyH_take (i := 52) (oi := ?oi52x) (v := ?v52x) ?hi52x (by kernel_rfl) (by kernel_rfl) (by kernel_rfl) ?hQ52x ?hy52x (by assumption) ?rest52x
              case hi52x => (simp only [List.getElem?_toArray, List.getElem?_cons_succ, List.getElem?_cons_zero]; rfl)
              case hQ52x => exact fun _ _ _ h => h
              case hy52x => exact Or.inl ⟨by rfl, by (intro w hSw; (try dsimp only at hSw); go_simp; try with_reducible rfl)⟩
              (try simp only [Act.put, List.setIfInBounds_toArray, List.set_cons_zero, List.set_cons_succ])
              refine wpAnyH_ready (rs := [53]) (by kernel_rfl) (by simp) ?_
              refine AllReadyH.cons (o := ?oi53x) ?ho53x ?hK53x AllReadyH.nil
              case ho53x => (simp only [List.getElem?_toArray, List.getElem?_cons_succ, List.getElem?_cons_zero]; rfl)
              intro K hK
              go_simp
              (first
                      | (go_at_call 4; ((with_reducible refine (CN.out _ _ (hr.step (by go_grown))).mono ?_); rintro e1 w' ⟨rfl, hk3⟩; (try clear hX); have hX := hk3.2; (try clear mi0 mi1 mk0 mk1 mr0 mr1); obtain ⟨mi0, mi1⟩ := (hL.below hX).2 i hi2; obtain ⟨mk0, mk1⟩ := (hL.below hX).2 k hk2; obtain ⟨mr0, mr1⟩ := (hL.below hX).2 r hr9; clear hk3))
                      | (go_at_call 3; ((with_reducible refine (CO.out _ _ (hr.step (by go_grown))).mono ?_); rintro e1 w' ⟨rfl, hk3⟩; (try clear hX); have hX := hk3.2; (try clear mi0 mi1 mk0 mk1 mr0 mr1); obtain ⟨mi0, mi1⟩ := (hL.below hX).2 i hi2; obtain ⟨mk0, mk1⟩ := (hL.below hX).2 k hk2; obtain ⟨mr0, mr1⟩ := (hL.below hX).2 r hr9; clear hk3)))
              (try go_wp2_with fail)
              refine hK.out _ _ ?_ (fun hHeld => ?_)
              · (try dsimp only)
                go_keep
              clear hK K
              (try simp only [Act.put, List.setIfInBounds_toArray, List.set_cons_zero, List.set_cons_succ])
              refine wpAnyH_take (i := 54) (oi := ?oi54x) (v := ?v54x) ?hi54x (by kernel_rfl) (by kernel_rfl) (by kernel_rfl) ?hQ54x ?hy54x (by assumption) ?rest54x
              case hi54x => (simp only [List.getElem?_toArray, List.getElem?_cons_succ, List.getElem?_cons_zero]; rfl)
              case hQ54x => exact fun _ _ _ h => h
              case hy54x => exact Or.inl ⟨by rfl, by (intro w hSw; (try dsimp only at hSw); go_simp; try with_reducible rfl)⟩
              (try simp only [Act.put, List.setIfInBounds_toArray, List.set_cons_zero, List.set_cons_succ])
              refine wpAnyH_take (i := 55) (oi := ?oi55x) (v := ?v55x) ?hi55x (by kernel_rfl) (by kernel_rfl) (by kernel_rfl) ?hQ55x ?hy55x (by assumption) ?rest55x
              case hi55x => (simp only [List.getElem?_toArray, List.getElem?_cons_succ, List.getElem?_cons_zero]; rfl)
              case hQ55x => exact fun _ _ _ h => h
              case hy55x => exact Or.inl ⟨by rfl, by (intro w hSw; (try dsimp only at hSw); go_simp; try with_reducible rfl)⟩
              (try simp only [Act.put, List.setIfInBounds_toArray, List.set_cons_zero, List.set_cons_succ])
              refine wpAnyH_done (by kernel_rfl) ?_ _
              refine NoPanic.normal ?_
              all_goals
                go_wp2_with fail
                go_roundw
                case rel => exact ⟨k + 1, _, by omega, by go_num, rfl, hL.below hX, ho.step hX⟩
                case measure => simp [intOf]; omega
          · subst g
            have hc := (l_cmp i i hi2 hi2).2.1 rfl
            obtain ⟨bi1, bi2⟩ := l_bd i hi2
            obtain ⟨bk1, bk2⟩ := l_bd i hk2
            have hr9' : (i + i) % 9 < 9 := Nat.mod_lt _ (by decide)
            have hrm1' : ((i : Int) + (i : Int)) % 9 = (((i + i) % 9 : Nat) : Int) := by omega
            have hrm2' : ((i : Int) + (i : Int)).tmod 9 = (((i + i) % 9 : Nat) : Int) := by rw [Int.tmod_eq_emod_of_nonneg (by omega)]; exact hrm1'
            have hs1 : IntKind.i64.wrap ((i : Int) + (i : Int)) = (i : Int) + (i : Int) := IntWalk.i64_in _ (by omega)
            obtain ⟨r, hr9, hrm1, hrm2⟩ : ∃ r : Nat, r < 9 ∧ ((i : Int) + (i : Int)) % 9 = (r : Int) ∧ ((i : Int) + (i : Int)).tmod 9 = (r : Int) := ⟨_, hr9', hrm1', hrm2'⟩
            clear hr9' hrm1' hrm2'
            have hrb0 : (0 : Int) ≤ (r : Int) := by omega
            have hrb1 : (r : Int) < 9 := by omega
            obtain ⟨br1, br2⟩ := l_bd r hr9
            have hr := Ok.refl ho.1
            obtain ⟨fi0, fi1⟩ := (hL).2 i hi2
            obtain ⟨fk0, fk1⟩ := (hL).2 i hk2
            obtain ⟨fr0, fr1⟩ := (hL).2 r hr9
            have CC : Hid (∀ B X, Ok B X → Calls Tryd.prog 8 #[E2 (lI i) (lD i), E2 (lI i) (lD i)] X fun x w' => x = .returned (.int .i64 0) ∧ Ok B w') := fun B X hX => c_cmp hX _ _ _ _ bi1 bi2 bk1 bk2 hc
            have CN : Hid (∀ B X, Ok B X → Calls Tryd.prog 4 #[E2 (lI i) (lD i), E2 (lI i) (lD i)] X fun x w' => x = .returned (.bool true) ∧ Ok B w') := fun B X hX => KN.out _ _ _ _ B X bi1 bi2 bk1 bk2 hX
            have CO : Hid (∀ B X, Ok B X → Calls Tryd.prog 3 #[E2 (lI i) (lD i), E2 (lI i) (lD i), E2 (lI r) (lD r)] X fun x w' => x = .returned (.bool true) ∧ Ok B w') := fun B X hX => KO.out _ _ _ _ _ _ B X bi1 bi2 bk1 bk2 br1 br2 hX
            clear bi1 bi2 bk1 bk2 br1 br2 hc
            go_upto_region 8 with fail
            go_region_held3 (fun x => x.cell? ⟨p, i * 2, none⟩ = some (.int .i8 (lI i)) ∧ x.cell? ⟨p, i * 2 + 1, none⟩ = some (.int .i64 (lD i)) ∧ x.cell? ⟨p, i * 2, none⟩ = some (.int .i8 (lI i)) ∧ x.cell? ⟨p, i * 2 + 1, none⟩ = some (.int .i64 (lD i))) (go_keep)
              (first
                | (go_at_call 8; ((with_reducible refine (CC.out _ _ (hr.step (by go_grown))).mono ?_); rintro e1 w' ⟨rfl, hk3⟩; (try clear hX); have hX := hk3.2; (try clear mi0 mi1 mk0 mk1 mr0 mr1); obtain ⟨mi0, mi1⟩ := (hL.below hX).2 i hi2; obtain ⟨mk0, mk1⟩ := (hL.below hX).2 i hk2; obtain ⟨mr0, mr1⟩ := (hL.below hX).2 r hr9; clear hk3)))
            all_goals
              have ob := ho.step hX
              have hLb := hL.below hX
              clear ho hL hr hX CC mi0 mi1 mk0 mk1 mr0 mr1 fi0 fi1 fk0 fk1 fr0 fr1
              have hr := Ok.refl ob.1
              have ho := ob
              have hL := hLb
              clear ob hLb
              obtain ⟨fi0, fi1⟩ := (hL).2 i hi2
              obtain ⟨fk0, fk1⟩ := (hL).2 i hk2
              obtain ⟨fr0, fr1⟩ := (hL).2 r hr9
              go_upto_region 9 with fail
              refine wp_region_noPanic ?_
              refine wp_region_held_drew (S := (fun x => x.cell? ⟨p, i * 2, none⟩ = some (.int .i8 (lI i)) ∧ x.cell? ⟨p, i * 2 + 1, none⟩ = some (.int .i64 (lD i)) ∧ x.cell? ⟨p, i * 2, none⟩ = some (.int .i8 (lI i)) ∧ x.cell? ⟨p, i * 2 + 1, none⟩ = some (.int .i64 (lD i)) ∧ x.cell? ⟨p, r * 2, none⟩ = some (.int .i8 (lI r)) ∧ x.cell? ⟨p, r * 2 + 1, none⟩ = some (.int .i64 (lD r)))) (by kernel_rfl) ?_ (fun hHeld => ?_)
              · (try dsimp only)
                go_keep
              refine wpAnyH_take (i := 0) (oi := ?oi0y) (v := ?v0y) ?hi0y (by kernel_rfl) (by kernel_rfl) (by kernel_rfl) ?hQ0y ?hy0y (by assumption) ?rest0y
              case hi0y => (simp only [List.getElem?_toArray, List.getElem?_cons_zero]; rfl)
              case hQ0y => exact fun _ _ _ h => h
              case hy0y => exact Or.inl ⟨by rfl, by (intro w hSw; (try dsimp only at hSw); go_simp; try with_reducible rfl)⟩
              (try simp only [Act.put, List.setIfInBounds_toArray, List.set_cons_zero, List.set_cons_succ])
              refine wpAnyH_take (i := 1) (oi := ?oi1y) (v := ?v1y) ?hi1y (by kernel_rfl) (by kernel_rfl) (by kernel_rfl) ?hQ1y ?hy1y (by assumption) ?rest1y
              case hi1y => (simp only [List.getElem?_toArray, List.getElem?_cons_succ, List.getElem?_cons_zero]; rfl)
              case hQ1y => exact fun _ _ _ h => h
              case hy1y => exact Or.inl ⟨by rfl, by (intro w hSw; (try dsimp only at hSw); go_simp; try with_reducible rfl)⟩
              (try simp only [Act.put, List.setIfInBounds_toArray, List.set_cons_zero, List.set_cons_succ])
              refine wpAnyH_take (i := 2) (oi := ?oi2y) (v := ?v2y) ?hi2y (by kernel_rfl) (by kernel_rfl) (by kernel_rfl) ?hQ2y ?hy2y (by assumption) ?rest2y
              case hi2y => (simp only [List.getElem?_toArray, List.getElem?_cons_succ, List.getElem?_cons_zero]; rfl)
              case hQ2y => exact fun _ _ _ h => h
              case hy2y => exact Or.inl ⟨by rfl, by (intro w hSw; (try dsimp only at hSw); go_simp; try with_reducible rfl)⟩
              (try simp only [Act.put, List.setIfInBounds_toArray, List.set_cons_zero, List.set_cons_succ])
              refine wpAnyH_take (i := 3) (oi := ?oi3y) (v := ?v3y) ?hi3y (by kernel_rfl) (by kernel_rfl) (by kernel_rfl) ?hQ3y ?hy3y (by assumption) ?rest3y
              case hi3y => (simp only [List.getElem?_toArray, List.getElem?_cons_succ, List.getElem?_cons_zero]; rfl)
              case hQ3y => exact fun _ _ _ h => h
              case hy3y => exact Or.inl ⟨by rfl, by (intro w hSw; (try dsimp only at hSw); go_simp; try with_reducible rfl)⟩
              (try simp only [Act.put, List.setIfInBounds_toArray, List.set_cons_zero, List.set_cons_succ])
              refine wpAnyH_take (i := 4) (oi := ?oi4y) (v := undef) ?hi4y (by kernel_rfl) (by kernel_rfl) (by kernel_rfl) ?hQ4y ?hy4y (by assumption) ?rest4y
              case hi4y => (simp only [List.getElem?_toArray, List.getElem?_cons_succ, List.getElem?_cons_zero]; rfl)
              case hQ4y => exact fun _ _ _ h => h
              case hy4y => exact Or.inr ⟨by rfl, rfl⟩
              (try simp only [Act.put, List.setIfInBounds_toArray, List.set_cons_zero, List.set_cons_succ])
              refine wpAnyH_take (i := 5) (oi := ?oi5y) (v := undef) ?hi5y (by kernel_rfl) (by kernel_rfl) (by kernel_rfl) ?hQ5y ?hy5y (by assumption) ?rest5y
              case hi5y => (simp only [List.getElem?_toArray, List.getElem?_cons_succ, List.getElem?_cons_zero]; rfl)
              case hQ5y => exact fun _ _ _ h => h
              case hy5y => exact Or.inr ⟨by rfl, rfl⟩
              (try simp only [Act.put, List.setIfInBounds_toArray, List.set_cons_zero, List.set_cons_succ])
              refine wpAnyH_take (i := 6) (oi := ?oi6y) (v := ?v6y) ?hi6y (by kernel_rfl) (by kernel_rfl) (by kernel_rfl) ?hQ6y ?hy6y (by assumption) ?rest6y
              case hi6y => (simp only [List.getElem?_toArray, List.getElem?_cons_succ, List.getElem?_cons_zero]; rfl)
              case hQ6y => exact fun _ _ _ h => h
              case hy6y => exact Or.inl ⟨by rfl, by (intro w hSw; (try dsimp only at hSw); go_simp; try with_reducible rfl)⟩
              (try simp only [Act.put, List.setIfInBounds_toArray, List.set_cons_zero, List.set_cons_succ])
              refine wpAnyH_take (i := 7) (oi := ?oi7y) (v := ?v7y) ?hi7y (by kernel_rfl) (by kernel_rfl) (by kernel_rfl) ?hQ7y ?hy7y (by assumption) ?rest7y
              case hi7y => (simp only [List.getElem?_toArray, List.getElem?_cons_succ, List.getElem?_cons_zero]; rfl)
              case hQ7y => exact fun _ _ _ h => h
              case hy7y => exact Or.inl ⟨by rfl, by (intro w hSw; (try dsimp only at hSw); go_simp; try with_reducible rfl)⟩
              (try simp only [Act.put, List.setIfInBounds_toArray, List.set_cons_zero, List.set_cons_succ])
              refine wpAnyH_take (i := 8) (oi := ?oi8y) (v := ?v8y) ?hi8y (by kernel_rfl) (by kernel_rfl) (by kernel_rfl) ?hQ8y ?hy8y (by assumption) ?rest8y
              case hi8y => (simp only [List.getElem?_toArray, List.getElem?_cons_succ, List.getElem?_cons_zero]; rfl)
              case hQ8y => exact fun _ _ _ h => h
              case hy8y => exact Or.inl ⟨by rfl, by (intro w hSw; (try dsimp only at hSw); go_simp; try with_reducible rfl)⟩
              (try simp only [Act.put, List.setIfInBounds_toArray, List.set_cons_zero, List.set_cons_succ])
              refine wpAnyH_take (i := 9) (oi := ?oi9y) (v := ?v9y) ?hi9y (by kernel_rfl) (by kernel_rfl) (by kernel_rfl) ?hQ9y ?hy9y (by assumption) ?rest9y
              case hi9y => (simp only [List.getElem?_toArray, List.getElem?_cons_succ, List.getElem?_cons_zero]; rfl)
              case hQ9y => exact fun _ _ _ h => h
              case hy9y => exact Or.inl ⟨by rfl, by (intro w hSw; (try dsimp only at hSw); go_simp; try with_reducible rfl)⟩
              (try simp only [Act.put, List.setIfInBounds_toArray, List.set_cons_zero, List.set_cons_succ])
              refine wpAnyH_take (i := 10) (oi := ?oi10y) (v := ?v10y) ?hi10y (by kernel_rfl) (by kernel_rfl) (by kernel_rfl) ?hQ10y ?hy10y (by assumption) ?rest10y
              case hi10y => (simp only [List.getElem?_toArray, List.getElem?_cons_succ, List.getElem?_cons_zero]; rfl)
              case hQ10y => exact fun _ _ _ h => h
              case hy10y => exact Or.inl ⟨by rfl, by (intro w hSw; (try dsimp only at hSw); go_simp; try with_reducible rfl)⟩
              (try simp only [Act.put, List.setIfInBounds_toArray, List.set_cons_zero, List.set_cons_succ])
              refine wpAnyH_take (i := 11) (oi := ?oi11y) (v := ?v11y) ?hi11y (by kernel_rfl) (by kernel_rfl) (by kernel_rfl) ?hQ11y ?hy11y (by assumption) ?rest11y
              case hi11y => (simp only [List.getElem?_toArray, List.getElem?_cons_succ, List.getElem?_cons_zero]; rfl)
              case hQ11y => exact fun _ _ _ h => h
              case hy11y => exact Or.inl ⟨by rfl, by (intro w hSw; (try dsimp only at hSw); go_simp; try with_reducible rfl)⟩
              (try simp only [Act.put, List.setIfInBounds_toArray, List.set_cons_zero, List.set_cons_succ])
              refine wpAnyH_take (i := 12) (oi := ?oi12y) (v := ?v12y) ?hi12y (by kernel_rfl) (by kernel_rfl) (by kernel_rfl) ?hQ12y ?hy12y (by assumption) ?rest12y
              case hi12y => (simp only [List.getElem?_toArray, List.getElem?_cons_succ, List.getElem?_cons_zero]; rfl)
              case hQ12y => exact fun _ _ _ h => h
              case hy12y => exact Or.inl ⟨by rfl, by (intro w hSw; (try dsimp only at hSw); go_simp; try with_reducible rfl)⟩
              (try simp only [Act.put, List.setIfInBounds_toArray, List.set_cons_zero, List.set_cons_succ])
              refine wpAnyH_take (i := 13) (oi := ?oi13y) (v := ?v13y) ?hi13y (by kernel_rfl) (by kernel_rfl) (by kernel_rfl) ?hQ13y ?hy13y (by assumption) ?rest13y
              case hi13y => (simp only [List.getElem?_toArray, List.getElem?_cons_succ, List.getElem?_cons_zero]; rfl)
              case hQ13y => exact fun _ _ _ h => h
              case hy13y => exact Or.inl ⟨by rfl, by (intro w hSw; (try dsimp only at hSw); go_simp; try with_reducible rfl)⟩
              (try simp only [Act.put, List.setIfInBounds_toArray, List.set_cons_zero, List.set_cons_succ])
              refine wpAnyH_take (i := 14) (oi := ?oi14y) (v := ?v14y) ?hi14y (by kernel_rfl) (by kernel_rfl) (by kernel_rfl) ?hQ14y ?hy14y (by assumption) ?rest14y
              case hi14y => (simp only [List.getElem?_toArray, List.getElem?_cons_succ, List.getElem?_cons_zero]; rfl)
              case hQ14y => exact fun _ _ _ h => h
              case hy14y => exact Or.inl ⟨by rfl, by (intro w hSw; (try dsimp only at hSw); go_simp; try with_reducible rfl)⟩
              (try simp only [Act.put, List.setIfInBounds_toArray, List.set_cons_zero, List.set_cons_succ])
              refine wpAnyH_take (i := 15) (oi := ?oi15y) (v := ?v15y) ?hi15y (by kernel_rfl) (by kernel_rfl) (by kernel_rfl) ?hQ15y ?hy15y (by assumption) ?rest15y
              case hi15y => (simp only [List.getElem?_toArray, List.getElem?_cons_succ, List.getElem?_cons_zero]; rfl)
              case hQ15y => exact fun _ _ _ h => h
              case hy15y => exact Or.inl ⟨by rfl, by (intro w hSw; (try dsimp only at hSw); go_simp; try with_reducible rfl)⟩
              (try simp only [Act.put, List.setIfInBounds_toArray, List.set_cons_zero, List.set_cons_succ])
              refine wpAnyH_take (i := 16) (oi := ?oi16y) (v := ?v16y) ?hi16y (by kernel_rfl) (by kernel_rfl) (by kernel_rfl) ?hQ16y ?hy16y (by assumption) ?rest16y
              case hi16y => (simp only [List.getElem?_toArray, List.getElem?_cons_succ, List.getElem?_cons_zero]; rfl)
              case hQ16y => exact fun _ _ _ h => h
              case hy16y => exact Or.inl ⟨by rfl, by (intro w hSw; (try dsimp only at hSw); go_simp; try with_reducible rfl)⟩
              (try simp only [Act.put, List.setIfInBounds_toArray, List.set_cons_zero, List.set_cons_succ])
              refine wpAnyH_take (i := 17) (oi := ?oi17y) (v := ?v17y) ?hi17y (by kernel_rfl) (by kernel_rfl) (by kernel_rfl) ?hQ17y ?hy17y (by assumption) ?rest17y
              case hi17y => (simp only [List.getElem?_toArray, List.getElem?_cons_succ, List.getElem?_cons_zero]; rfl)
              case hQ17y => exact fun _ _ _ h => h
              case hy17y => exact Or.inl ⟨by rfl, by (intro w hSw; (try dsimp only at hSw); go_simp; try with_reducible rfl)⟩
              (try simp only [Act.put, List.setIfInBounds_toArray, List.set_cons_zero, List.set_cons_succ])
              refine wpAnyH_take (i := 18) (oi := ?oi18y) (v := ?v18y) ?hi18y (by kernel_rfl) (by kernel_rfl) (by kernel_rfl) ?hQ18y ?hy18y (by assumption) ?rest18y
              case hi18y => (simp only [List.getElem?_toArray, List.getElem?_cons_succ, List.getElem?_cons_zero]; rfl)
              case hQ18y => exact fun _ _ _ h => h
              case hy18y => exact Or.inl ⟨by rfl, by (intro w hSw; (try dsimp only at hSw); go_simp; try with_reducible rfl)⟩
              (try simp only [Act.put, List.setIfInBounds_toArray, List.set_cons_zero, List.set_cons_succ])
              refine wpAnyH_take (i := 19) (oi := ?oi19y) (v := ?v19y) ?hi19y (by kernel_rfl) (by kernel_rfl) (by kernel_rfl) ?hQ19y ?hy19y (by assumption) ?rest19y
              case hi19y => (simp only [List.getElem?_toArray, List.getElem?_cons_succ, List.getElem?_cons_zero]; rfl)
              case hQ19y => exact fun _ _ _ h => h
              case hy19y => exact Or.inl ⟨by rfl, by (intro w hSw; (try dsimp only at hSw); go_simp; try with_reducible rfl)⟩
              (try simp only [Act.put, List.setIfInBounds_toArray, List.set_cons_zero, List.set_cons_succ])
              refine wpAnyH_take (i := 20) (oi := ?oi20y) (v := ?v20y) ?hi20y (by kernel_rfl) (by kernel_rfl) (by kernel_rfl) ?hQ20y ?hy20y (by assumption) ?rest20y
              case hi20y => (simp only [List.getElem?_toArray, List.getElem?_cons_succ, List.getElem?_cons_zero]; rfl)
              case hQ20y => exact fun _ _ _ h => h
              case hy20y => exact Or.inl ⟨by rfl, by (intro w hSw; (try dsimp only at hSw); go_simp; try with_reducible rfl)⟩
              (try simp only [Act.put, List.setIfInBounds_toArray, List.set_cons_zero, List.set_cons_succ])
              refine wpAnyH_take (i := 21) (oi := ?oi21y) (v := undef) ?hi21y (by kernel_rfl) (by kernel_rfl) (by kernel_rfl) ?hQ21y ?hy21y (by assumption) ?rest21y
              case hi21y => (simp only [List.getElem?_toArray, List.getElem?_cons_succ, List.getElem?_cons_zero]; rfl)
              case hQ21y => exact fun _ _ _ h => h
              case hy21y => exact Or.inr ⟨by rfl, rfl⟩
              (try simp only [Act.put, List.setIfInBounds_toArray, List.set_cons_zero, List.set_cons_succ])
              refine wpAnyH_take (i := 22) (oi := ?oi22y) (v := undef) ?hi22y (by kernel_rfl) (by kernel_rfl) (by kernel_rfl) ?hQ22y ?hy22y (by assumption) ?rest22y
              case hi22y => (simp only [List.getElem?_toArray, List.getElem?_cons_succ, List.getElem?_cons_zero]; rfl)
              case hQ22y => exact fun _ _ _ h => h
              case hy22y => exact Or.inr ⟨by rfl, rfl⟩
              (try simp only [Act.put, List.setIfInBounds_toArray, List.set_cons_zero, List.set_cons_succ])
              refine wpAnyH_take (i := 23) (oi := ?oi23y) (v := ?v23y) ?hi23y (by kernel_rfl) (by kernel_rfl) (by kernel_rfl) ?hQ23y ?hy23y (by assumption) ?rest23y
              case hi23y => (simp only [List.getElem?_toArray, List.getElem?_cons_succ, List.getElem?_cons_zero]; rfl)
              case hQ23y => exact fun _ _ _ h => h
              case hy23y => exact Or.inl ⟨by rfl, by (intro w hSw; (try dsimp only at hSw); go_simp; try with_reducible rfl)⟩
              (try simp only [Act.put, List.setIfInBounds_toArray, List.set_cons_zero, List.set_cons_succ])
              refine wpAnyH_take (i := 24) (oi := ?oi24y) (v := ?v24y) ?hi24y (by kernel_rfl) (by kernel_rfl) (by kernel_rfl) ?hQ24y ?hy24y (by assumption) ?rest24y
              case hi24y => (simp only [List.getElem?_toArray, List.getElem?_cons_succ, List.getElem?_cons_zero]; rfl)
              case hQ24y => exact fun _ _ _ h => h
              case hy24y => exact Or.inl ⟨by rfl, by (intro w hSw; (try dsimp only at hSw); go_simp; try with_reducible rfl)⟩
              (try simp only [Act.put, List.setIfInBounds_toArray, List.set_cons_zero, List.set_cons_succ])
              refine wpAnyH_take (i := 25) (oi := ?oi25y) (v := ?v25y) ?hi25y (by kernel_rfl) (by kernel_rfl) (by kernel_rfl) ?hQ25y ?hy25y (by assumption) ?rest25y
              case hi25y => (simp only [List.getElem?_toArray, List.getElem?_cons_succ, List.getElem?_cons_zero]; rfl)
              case hQ25y => exact fun _ _ _ h => h
              case hy25y => exact Or.inl ⟨by rfl, by (intro w hSw; (try dsimp only at hSw); go_simp; try with_reducible rfl)⟩
              (try simp only [Act.put, List.setIfInBounds_toArray, List.set_cons_zero, List.set_cons_succ])
              refine wpAnyH_take (i := 26) (oi := ?oi26y) (v := ?v26y) ?hi26y (by kernel_rfl) (by kernel_rfl) (by kernel_rfl) ?hQ26y ?hy26y (by assumption) ?rest26y
              case hi26y => (simp only [List.getElem?_toArray, List.getElem?_cons_succ, List.getElem?_cons_zero]; rfl)
              case hQ26y => exact fun _ _ _ h => h
              case hy26y => exact Or.inl ⟨by rfl, by (intro w hSw; (try dsimp only at hSw); go_simp; try with_reducible rfl)⟩
              (try simp only [Act.put, List.setIfInBounds_toArray, List.set_cons_zero, List.set_cons_succ])
              refine wpAnyH_take (i := 27) (oi := ?oi27y) (v := ?v27y) ?hi27y (by kernel_rfl) (by kernel_rfl) (by kernel_rfl) ?hQ27y ?hy27y (by assumption) ?rest27y
              case hi27y => (simp only [List.getElem?_toArray, List.getElem?_cons_succ, List.getElem?_cons_zero]; rfl)
              case hQ27y => exact fun _ _ _ h => h
              case hy27y => exact Or.inl ⟨by rfl, by (intro w hSw; (try dsimp only at hSw); go_simp; try with_reducible rfl)⟩
              (try simp only [Act.put, List.setIfInBounds_toArray, List.set_cons_zero, List.set_cons_succ])
              refine wpAnyH_take (i := 28) (oi := ?oi28y) (v := ?v28y) ?hi28y (by kernel_rfl) (by kernel_rfl) (by kernel_rfl) ?hQ28y ?hy28y (by assumption) ?rest28y
              case hi28y => (simp only [List.getElem?_toArray, List.getElem?_cons_succ, List.getElem?_cons_zero]; rfl)
              case hQ28y => exact fun _ _ _ h => h
              case hy28y => exact Or.inl ⟨by rfl, by (intro w hSw; (try dsimp only at hSw); go_simp; try with_reducible rfl)⟩
              (try simp only [Act.put, List.setIfInBounds_toArray, List.set_cons_zero, List.set_cons_succ])
              refine wpAnyH_take (i := 29) (oi := ?oi29y) (v := ?v29y) ?hi29y (by kernel_rfl) (by kernel_rfl) (by kernel_rfl) ?hQ29y ?hy29y (by assumption) ?rest29y
              case hi29y => (simp only [List.getElem?_toArray, List.getElem?_cons_succ, List.getElem?_cons_zero]; rfl)
              case hQ29y => exact fun _ _ _ h => h
              case hy29y => exact Or.inl ⟨by rfl, by (intro w hSw; (try dsimp only at hSw); go_simp; try with_reducible rfl)⟩
              (try simp only [Act.put, List.setIfInBounds_toArray, List.set_cons_zero, List.set_cons_succ])
              refine wpAnyH_take (i := 30) (oi := ?oi30y) (v := ?v30y) ?hi30y (by kernel_rfl) (by kernel_rfl) (by kernel_rfl) ?hQ30y ?hy30y (by assumption) ?rest30y
              case hi30y => (simp only [List.getElem?_toArray, List.getElem?_cons_succ, List.getElem?_cons_zero]; rfl)
              case hQ30y => exact fun _ _ _ h => h
              case hy30y => exact Or.inl ⟨by rfl, by (intro w hSw; (try dsimp only at hSw); go_simp; try with_reducible rfl)⟩
              (try simp only [Act.put, List.setIfInBounds_toArray, List.set_cons_zero, List.set_cons_succ])
              refine wpAnyH_take (i := 31) (oi := ?oi31y) (v := ?v31y) ?hi31y (by kernel_rfl) (by kernel_rfl) (by kernel_rfl) ?hQ31y ?hy31y (by assumption) ?rest31y
              case hi31y => (simp only [List.getElem?_toArray, List.getElem?_cons_succ, List.getElem?_cons_zero]; rfl)
              case hQ31y => exact fun _ _ _ h => h
              case hy31y => exact Or.inl ⟨by rfl, by (intro w hSw; (try dsimp only at hSw); go_simp; try with_reducible rfl)⟩
              (try simp only [Act.put, List.setIfInBounds_toArray, List.set_cons_zero, List.set_cons_succ])
              refine wpAnyH_take (i := 32) (oi := ?oi32y) (v := ?v32y) ?hi32y (by kernel_rfl) (by kernel_rfl) (by kernel_rfl) ?hQ32y ?hy32y (by assumption) ?rest32y
              case hi32y => (simp only [List.getElem?_toArray, List.getElem?_cons_succ, List.getElem?_cons_zero]; rfl)
              case hQ32y => exact fun _ _ _ h => h
              case hy32y => exact Or.inl ⟨by rfl, by (intro w hSw; (try dsimp only at hSw); go_simp; try with_reducible rfl)⟩
              (try simp only [Act.put, List.setIfInBounds_toArray, List.set_cons_zero, List.set_cons_succ])
              refine wpAnyH_take (i := 33) (oi := ?oi33y) (v := ?v33y) ?hi33y (by kernel_rfl) (by kernel_rfl) (by kernel_rfl) ?hQ33y ?hy33y (by assumption) ?rest33y
              case hi33y => (simp only [List.getElem?_toArray, List.getElem?_cons_succ, List.getElem?_cons_zero]; rfl)
              case hQ33y => exact fun _ _ _ h => h
              case hy33y => exact Or.inl ⟨by rfl, by (intro w hSw; (try dsimp only at hSw); go_simp; try with_reducible rfl)⟩
              (try simp only [Act.put, List.setIfInBounds_toArray, List.set_cons_zero, List.set_cons_succ])
              refine wpAnyH_ready (rs := [34]) (by kernel_rfl) (by simp) ?_
              refine AllReadyH.cons (o := ?oi34y) ?ho34y ?hK34y AllReadyH.nil
              case ho34y => (simp only [List.getElem?_toArray, List.getElem?_cons_succ, List.getElem?_cons_zero]; rfl)
              intro K hK
              go_simp
              (first
                      | (go_at_call 4; ((with_reducible refine (CN.out _ _ (hr.step (by go_grown))).mono ?_); rintro e1 w' ⟨rfl, hk3⟩; (try clear hX); have hX := hk3.2; (try clear mi0 mi1 mk0 mk1 mr0 mr1); obtain ⟨mi0, mi1⟩ := (hL.below hX).2 i hi2; obtain ⟨mk0, mk1⟩ := (hL.below hX).2 i hk2; obtain ⟨mr0, mr1⟩ := (hL.below hX).2 r hr9; clear hk3))
                      | (go_at_call 3; ((with_reducible refine (CO.out _ _ (hr.step (by go_grown))).mono ?_); rintro e1 w' ⟨rfl, hk3⟩; (try clear hX); have hX := hk3.2; (try clear mi0 mi1 mk0 mk1 mr0 mr1); obtain ⟨mi0, mi1⟩ := (hL.below hX).2 i hi2; obtain ⟨mk0, mk1⟩ := (hL.below hX).2 i hk2; obtain ⟨mr0, mr1⟩ := (hL.below hX).2 r hr9; clear hk3)))
              (try go_wp2_with fail)
              refine hK.out _ _ ?_ (fun hHeld => ?_)
              · (try dsimp only)
                go_keep
              clear hK K
              (try simp only [Act.put, List.setIfInBounds_toArray, List.set_cons_zero, List.set_cons_succ])
              refine wpAnyH_take (i := 35) (oi := ?oi35y) (v := ?v35y) ?hi35y (by kernel_rfl) (by kernel_rfl) (by kernel_rfl) ?hQ35y ?hy35y (by assumption) ?rest35y
              case hi35y => (simp only [List.getElem?_toArray, List.getElem?_cons_succ, List.getElem?_cons_zero]; rfl)
              case hQ35y => exact fun _ _ _ h => h
              case hy35y => exact Or.inl ⟨by rfl, by (intro w hSw; (try dsimp only at hSw); go_simp; try with_reducible rfl)⟩
              (try simp only [Act.put, List.setIfInBounds_toArray, List.set_cons_zero, List.set_cons_succ])
              refine wpAnyH_take (i := 36) (oi := ?oi36y) (v := ?v36y) ?hi36y (by kernel_rfl) (by kernel_rfl) (by kernel_rfl) ?hQ36y ?hy36y (by assumption) ?rest36y
              case hi36y => (simp only [List.getElem?_toArray, List.getElem?_cons_succ, List.getElem?_cons_zero]; rfl)
              case hQ36y => exact fun _ _ _ h => h
              case hy36y => exact Or.inl ⟨by rfl, by (intro w hSw; (try dsimp only at hSw); go_simp; try with_reducible rfl)⟩
              (try simp only [Act.put, List.setIfInBounds_toArray, List.set_cons_zero, List.set_cons_succ])
              refine wpAnyH_take (i := 37) (oi := ?oi37y) (v := ?v37y) ?hi37y (by kernel_rfl) (by kernel_rfl) (by kernel_rfl) ?hQ37y ?hy37y (by assumption) ?rest37y
              case hi37y => (simp only [List.getElem?_toArray, List.getElem?_cons_succ, List.getElem?_cons_zero]; rfl)
              case hQ37y => exact fun _ _ _ h => h
              case hy37y => exact Or.inl ⟨by rfl, by (intro w hSw; (try dsimp only at hSw); go_simp; try with_reducible rfl)⟩
              (try simp only [Act.put, List.setIfInBounds_toArray, List.set_cons_zero, List.set_cons_succ])
              refine wpAnyH_take (i := 38) (oi := ?oi38y) (v := ?v38y) ?hi38y (by kernel_rfl) (by kernel_rfl) (by kernel_rfl) ?hQ38y ?hy38y (by assumption) ?rest38y
              case hi38y => (simp only [List.getElem?_toArray, List.getElem?_cons_succ, List.getElem?_cons_zero]; rfl)
              case hQ38y => exact fun _ _ _ h => h
              case hy38y => exact Or.inl ⟨by rfl, by (intro w hSw; (try dsimp only at hSw); go_simp; try with_reducible rfl)⟩
              (try simp only [Act.put, List.setIfInBounds_toArray, List.set_cons_zero, List.set_cons_succ])
              refine wpAnyH_take (i := 39) (oi := ?oi39y) (v := ?v39y) ?hi39y (by kernel_rfl) (by kernel_rfl) (by kernel_rfl) ?hQ39y ?hy39y (by assumption) ?rest39y
              case hi39y => (simp only [List.getElem?_toArray, List.getElem?_cons_succ, List.getElem?_cons_zero]; rfl)
              case hQ39y => exact fun _ _ _ h => h
              case hy39y => exact Or.inl ⟨by rfl, by (intro w hSw; (try dsimp only at hSw); go_simp; try with_reducible rfl)⟩
              (try simp only [Act.put, List.setIfInBounds_toArray, List.set_cons_zero, List.set_cons_succ])
              refine wpAnyH_take (i := 40) (oi := ?oi40y) (v := ?v40y) ?hi40y (by kernel_rfl) (by kernel_rfl) (by kernel_rfl) ?hQ40y ?hy40y (by assumption) ?rest40y
              case hi40y => (simp only [List.getElem?_toArray, List.getElem?_cons_succ, List.getElem?_cons_zero]; rfl)
              case hQ40y => exact fun _ _ _ h => h
              case hy40y => exact Or.inl ⟨by rfl, by (intro w hSw; (try dsimp only at hSw); go_simp; try with_reducible rfl)⟩
              (try simp only [Act.put, List.setIfInBounds_toArray, List.set_cons_zero, List.set_cons_succ])
              refine wpAnyH_take (i := 41) (oi := ?oi41y) (v := ?v41y) ?hi41y (by kernel_rfl) (by kernel_rfl) (by kernel_rfl) ?hQ41y ?hy41y (by assumption) ?rest41y
              case hi41y => (simp only [List.getElem?_toArray, List.getElem?_cons_succ, List.getElem?_cons_zero]; rfl)
              case hQ41y => exact fun _ _ _ h => h
              case hy41y => exact Or.inl ⟨by rfl, by (intro w hSw; (try dsimp only at hSw); go_simp; try with_reducible rfl)⟩
              (try simp only [Act.put, List.setIfInBounds_toArray, List.set_cons_zero, List.set_cons_succ])
              refine wpAnyH_take (i := 42) (oi := ?oi42y) (v := ?v42y) ?hi42y (by kernel_rfl) (by kernel_rfl) (by kernel_rfl) ?hQ42y ?hy42y (by assumption) ?rest42y
              case hi42y => (simp only [List.getElem?_toArray, List.getElem?_cons_succ, List.getElem?_cons_zero]; rfl)
              case hQ42y => exact fun _ _ _ h => h
              case hy42y => exact Or.inl ⟨by rfl, by (intro w hSw; (try dsimp only at hSw); go_simp; try with_reducible rfl)⟩
              (try simp only [Act.put, List.setIfInBounds_toArray, List.set_cons_zero, List.set_cons_succ])
              refine wpAnyH_take (i := 43) (oi := ?oi43y) (v := ?v43y) ?hi43y (by kernel_rfl) (by kernel_rfl) (by kernel_rfl) ?hQ43y ?hy43y (by assumption) ?rest43y
              case hi43y => (simp only [List.getElem?_toArray, List.getElem?_cons_succ, List.getElem?_cons_zero]; rfl)
              case hQ43y => exact fun _ _ _ h => h
              case hy43y => exact Or.inl ⟨by rfl, by (intro w hSw; (try dsimp only at hSw); go_simp; try with_reducible rfl)⟩
              (try simp only [Act.put, List.setIfInBounds_toArray, List.set_cons_zero, List.set_cons_succ])
              refine wpAnyH_take (i := 44) (oi := ?oi44y) (v := ?v44y) ?hi44y (by kernel_rfl) (by kernel_rfl) (by kernel_rfl) ?hQ44y ?hy44y (by assumption) ?rest44y
              case hi44y => (simp only [List.getElem?_toArray, List.getElem?_cons_succ, List.getElem?_cons_zero]; rfl)
              case hQ44y => exact fun _ _ _ h => h
              case hy44y => exact Or.inl ⟨by rfl, by (intro w hSw; (try dsimp only at hSw); go_simp; try with_reducible rfl)⟩
              (try simp only [Act.put, List.setIfInBounds_toArray, List.set_cons_zero, List.set_cons_succ])
              refine wpAnyH_take (i := 45) (oi := ?oi45y) (v := ?v45y) ?hi45y (by kernel_rfl) (by kernel_rfl) (by kernel_rfl) ?hQ45y ?hy45y (by assumption) ?rest45y
              case hi45y => (simp only [List.getElem?_toArray, List.getElem?_cons_succ, List.getElem?_cons_zero]; rfl)
              case hQ45y => exact fun _ _ _ h => h
              case hy45y => exact Or.inl ⟨by rfl, by (intro w hSw; (try dsimp only at hSw); go_simp; try with_reducible rfl)⟩
              (try simp only [Act.put, List.setIfInBounds_toArray, List.set_cons_zero, List.set_cons_succ])
              refine wpAnyH_take (i := 46) (oi := ?oi46y) (v := ?v46y) ?hi46y (by kernel_rfl) (by kernel_rfl) (by kernel_rfl) ?hQ46y ?hy46y (by assumption) ?rest46y
              case hi46y => (simp only [List.getElem?_toArray, List.getElem?_cons_succ, List.getElem?_cons_zero]; rfl)
              case hQ46y => exact fun _ _ _ h => h
              case hy46y => exact Or.inl ⟨by rfl, by (intro w hSw; (try dsimp only at hSw); go_simp; try with_reducible rfl)⟩
              (try simp only [Act.put, List.setIfInBounds_toArray, List.set_cons_zero, List.set_cons_succ])
              refine wpAnyH_take (i := 47) (oi := ?oi47y) (v := ?v47y) ?hi47y (by kernel_rfl) (by kernel_rfl) (by kernel_rfl) ?hQ47y ?hy47y (by assumption) ?rest47y
              case hi47y => (simp only [List.getElem?_toArray, List.getElem?_cons_succ, List.getElem?_cons_zero]; rfl)
              case hQ47y => exact fun _ _ _ h => h
              case hy47y => exact Or.inl ⟨by rfl, by (intro w hSw; (try dsimp only at hSw); go_simp; try with_reducible rfl)⟩
              (try simp only [Act.put, List.setIfInBounds_toArray, List.set_cons_zero, List.set_cons_succ])
              refine wpAnyH_take (i := 48) (oi := ?oi48y) (v := ?v48y) ?hi48y (by kernel_rfl) (by kernel_rfl) (by kernel_rfl) ?hQ48y ?hy48y (by assumption) ?rest48y
              case hi48y => (simp only [List.getElem?_toArray, List.getElem?_cons_succ, List.getElem?_cons_zero]; rfl)
              case hQ48y => exact fun _ _ _ h => h
              case hy48y => exact Or.inl ⟨by rfl, by (intro w hSw; (try dsimp only at hSw); go_simp; try with_reducible rfl)⟩
              (try simp only [Act.put, List.setIfInBounds_toArray, List.set_cons_zero, List.set_cons_succ])
              refine wpAnyH_take (i := 49) (oi := ?oi49y) (v := ?v49y) ?hi49y (by kernel_rfl) (by kernel_rfl) (by kernel_rfl) ?hQ49y ?hy49y (by assumption) ?rest49y
              case hi49y => (simp only [List.getElem?_toArray, List.getElem?_cons_succ, List.getElem?_cons_zero]; rfl)
              case hQ49y => exact fun _ _ _ h => h
              case hy49y => exact Or.inl ⟨by rfl, by (intro w hSw; (try dsimp only at hSw); go_simp; try with_reducible rfl)⟩
              (try simp only [Act.put, List.setIfInBounds_toArray, List.set_cons_zero, List.set_cons_succ])
              refine wpAnyH_take (i := 50) (oi := ?oi50y) (v := ?v50y) ?hi50y (by kernel_rfl) (by kernel_rfl) (by kernel_rfl) ?hQ50y ?hy50y (by assumption) ?rest50y
              case hi50y => (simp only [List.getElem?_toArray, List.getElem?_cons_succ, List.getElem?_cons_zero]; rfl)
              case hQ50y => exact fun _ _ _ h => h
              case hy50y => exact Or.inl ⟨by rfl, by (intro w hSw; (try dsimp only at hSw); go_simp; try with_reducible rfl)⟩
              (try simp only [Act.put, List.setIfInBounds_toArray, List.set_cons_zero, List.set_cons_succ])
              refine wpAnyH_take (i := 51) (oi := ?oi51y) (v := ?v51y) ?hi51y (by kernel_rfl) (by kernel_rfl) (by kernel_rfl) ?hQ51y ?hy51y (by assumption) ?rest51y
              case hi51y => (simp only [List.getElem?_toArray, List.getElem?_cons_succ, List.getElem?_cons_zero]; rfl)
              case hQ51y => exact fun _ _ _ h => h
              case hy51y => exact Or.inl ⟨by rfl, by (intro w hSw; (try dsimp only at hSw); go_simp; try with_reducible rfl)⟩
              (try simp only [Act.put, List.setIfInBounds_toArray, List.set_cons_zero, List.set_cons_succ])
              refine wpAnyH_take (i := 52) (oi := ?oi52y) (v := ?v52y) ?hi52y (by kernel_rfl) (by kernel_rfl) (by kernel_rfl) ?hQ52y ?hy52y (by assumption) ?rest52y
              case hi52y => (simp only [List.getElem?_toArray, List.getElem?_cons_succ, List.getElem?_cons_zero]; rfl)
              case hQ52y => exact fun _ _ _ h => h
              case hy52y => exact Or.inl ⟨by rfl, by (intro w hSw; (try dsimp only at hSw); go_simp; try with_reducible rfl)⟩
              (try simp only [Act.put, List.setIfInBounds_toArray, List.set_cons_zero, List.set_cons_succ])
              refine wpAnyH_ready (rs := [53]) (by kernel_rfl) (by simp) ?_
              refine AllReadyH.cons (o := ?oi53y) ?ho53y ?hK53y AllReadyH.nil
              case ho53y => (simp only [List.getElem?_toArray, List.getElem?_cons_succ, List.getElem?_cons_zero]; rfl)
              intro K hK
              go_simp
              (first
                      | (go_at_call 4; ((with_reducible refine (CN.out _ _ (hr.step (by go_grown))).mono ?_); rintro e1 w' ⟨rfl, hk3⟩; (try clear hX); have hX := hk3.2; (try clear mi0 mi1 mk0 mk1 mr0 mr1); obtain ⟨mi0, mi1⟩ := (hL.below hX).2 i hi2; obtain ⟨mk0, mk1⟩ := (hL.below hX).2 i hk2; obtain ⟨mr0, mr1⟩ := (hL.below hX).2 r hr9; clear hk3))
                      | (go_at_call 3; ((with_reducible refine (CO.out _ _ (hr.step (by go_grown))).mono ?_); rintro e1 w' ⟨rfl, hk3⟩; (try clear hX); have hX := hk3.2; (try clear mi0 mi1 mk0 mk1 mr0 mr1); obtain ⟨mi0, mi1⟩ := (hL.below hX).2 i hi2; obtain ⟨mk0, mk1⟩ := (hL.below hX).2 i hk2; obtain ⟨mr0, mr1⟩ := (hL.below hX).2 r hr9; clear hk3)))
              (try go_wp2_with fail)
              refine hK.out _ _ ?_ (fun hHeld => ?_)
              · (try dsimp only)
                go_keep
              clear hK K
              (try simp only [Act.put, List.setIfInBounds_toArray, List.set_cons_zero, List.set_cons_succ])
              refine wpAnyH_take (i := 54) (oi := ?oi54y) (v := ?v54y) ?hi54y (by kernel_rfl) (by kernel_rfl) (by kernel_rfl) ?hQ54y ?hy54y (by assumption) ?rest54y
              case hi54y => (simp only [List.getElem?_toArray, List.getElem?_cons_succ, List.getElem?_cons_zero]; rfl)
              case hQ54y => exact fun _ _ _ h => h
              case hy54y => exact Or.inl ⟨by rfl, by (intro w hSw; (try dsimp only at hSw); go_simp; try with_reducible rfl)⟩
              (try simp only [Act.put, List.setIfInBounds_toArray, List.set_cons_zero, List.set_cons_succ])
              refine wpAnyH_take (i := 55) (oi := ?oi55y) (v := ?v55y) ?hi55y (by kernel_rfl) (by kernel_rfl) (by kernel_rfl) ?hQ55y ?hy55y (by assumption) ?rest55y
              case hi55y => (simp only [List.getElem?_toArray, List.getElem?_cons_succ, List.getElem?_cons_zero]; rfl)
              case hQ55y => exact fun _ _ _ h => h
              case hy55y => exact Or.inl ⟨by rfl, by (intro w hSw; (try dsimp only at hSw); go_simp; try with_reducible rfl)⟩
              (try simp only [Act.put, List.setIfInBounds_toArray, List.set_cons_zero, List.set_cons_succ])
              refine wpAnyH_done (by kernel_rfl) ?_ _
              refine NoPanic.normal ?_
              all_goals
                go_wp2_with fail
                go_roundw
                case rel => exact ⟨i + 1, _, by omega, by go_num, rfl, hL.below hX, ho.step hX⟩
                case measure => simp [intOf]; omega
          · have hc := (l_cmp i k hi2 hk2).2.2 g
            have d1 : decide ((i : Int) < (k : Int)) = false := decide_eq_false (by omega)
            have d2 : ((i : Int) == (k : Int)) = false := by rw [beq_eq_false_iff_ne]; omega
            have d4 : decide (i < k) = false := decide_eq_false (by omega)
            have d5 : (i == k) = false := by rw [beq_eq_false_iff_ne]; omega
            have d3 : decide (k < i) = true := decide_eq_true (by omega)
            obtain ⟨bi1, bi2⟩ := l_bd i hi2
            obtain ⟨bk1, bk2⟩ := l_bd k hk2
            have hr9' : (i + k) % 9 < 9 := Nat.mod_lt _ (by decide)
            have hrm1' : ((i : Int) + (k : Int)) % 9 = (((i + k) % 9 : Nat) : Int) := by omega
            have hrm2' : ((i : Int) + (k : Int)).tmod 9 = (((i + k) % 9 : Nat) : Int) := by rw [Int.tmod_eq_emod_of_nonneg (by omega)]; exact hrm1'
            have hs1 : IntKind.i64.wrap ((i : Int) + (k : Int)) = (i : Int) + (k : Int) := IntWalk.i64_in _ (by omega)
            obtain ⟨r, hr9, hrm1, hrm2⟩ : ∃ r : Nat, r < 9 ∧ ((i : Int) + (k : Int)) % 9 = (r : Int) ∧ ((i : Int) + (k : Int)).tmod 9 = (r : Int) := ⟨_, hr9', hrm1', hrm2'⟩
            clear hr9' hrm1' hrm2'
            have hrb0 : (0 : Int) ≤ (r : Int) := by omega
            have hrb1 : (r : Int) < 9 := by omega
            obtain ⟨br1, br2⟩ := l_bd r hr9
            have hr := Ok.refl ho.1
            obtain ⟨fi0, fi1⟩ := (hL).2 i hi2
            obtain ⟨fk0, fk1⟩ := (hL).2 k hk2
            obtain ⟨fr0, fr1⟩ := (hL).2 r hr9
            have CC : Hid (∀ B X, Ok B X → Calls Tryd.prog 8 #[E2 (lI i) (lD i), E2 (lI k) (lD k)] X fun x w' => x = .returned (.int .i64 1) ∧ Ok B w') := fun B X hX => c_cmp hX _ _ _ _ bi1 bi2 bk1 bk2 hc
            have CN : Hid (∀ B X, Ok B X → Calls Tryd.prog 4 #[E2 (lI i) (lD i), E2 (lI k) (lD k)] X fun x w' => x = .returned (.bool true) ∧ Ok B w') := fun B X hX => KN.out _ _ _ _ B X bi1 bi2 bk1 bk2 hX
            have CO : Hid (∀ B X, Ok B X → Calls Tryd.prog 3 #[E2 (lI i) (lD i), E2 (lI k) (lD k), E2 (lI r) (lD r)] X fun x w' => x = .returned (.bool true) ∧ Ok B w') := fun B X hX => KO.out _ _ _ _ _ _ B X bi1 bi2 bk1 bk2 br1 br2 hX
            clear bi1 bi2 bk1 bk2 br1 br2 hc
            go_upto_region 8 with fail
            go_region_held3 (fun x => x.cell? ⟨p, i * 2, none⟩ = some (.int .i8 (lI i)) ∧ x.cell? ⟨p, i * 2 + 1, none⟩ = some (.int .i64 (lD i)) ∧ x.cell? ⟨p, k * 2, none⟩ = some (.int .i8 (lI k)) ∧ x.cell? ⟨p, k * 2 + 1, none⟩ = some (.int .i64 (lD k))) (go_keep)
              (first
                | (go_at_call 8; ((with_reducible refine (CC.out _ _ (hr.step (by go_grown))).mono ?_); rintro e1 w' ⟨rfl, hk3⟩; (try clear hX); have hX := hk3.2; (try clear mi0 mi1 mk0 mk1 mr0 mr1); obtain ⟨mi0, mi1⟩ := (hL.below hX).2 i hi2; obtain ⟨mk0, mk1⟩ := (hL.below hX).2 k hk2; obtain ⟨mr0, mr1⟩ := (hL.below hX).2 r hr9; clear hk3)))
            all_goals
              have ob := ho.step hX
              have hLb := hL.below hX
              clear ho hL hr hX CC mi0 mi1 mk0 mk1 mr0 mr1 fi0 fi1 fk0 fk1 fr0 fr1
              have hr := Ok.refl ob.1
              have ho := ob
              have hL := hLb
              clear ob hLb
              obtain ⟨fi0, fi1⟩ := (hL).2 i hi2
              obtain ⟨fk0, fk1⟩ := (hL).2 k hk2
              obtain ⟨fr0, fr1⟩ := (hL).2 r hr9
              go_upto_region 9 with fail
              refine wp_region_noPanic ?_
              refine wp_region_held_drew (S := (fun x => x.cell? ⟨p, i * 2, none⟩ = some (.int .i8 (lI i)) ∧ x.cell? ⟨p, i * 2 + 1, none⟩ = some (.int .i64 (lD i)) ∧ x.cell? ⟨p, k * 2, none⟩ = some (.int .i8 (lI k)) ∧ x.cell? ⟨p, k * 2 + 1, none⟩ = some (.int .i64 (lD k)) ∧ x.cell? ⟨p, r * 2, none⟩ = some (.int .i8 (lI r)) ∧ x.cell? ⟨p, r * 2 + 1, none⟩ = some (.int .i64 (lD r)))) (by kernel_rfl) ?_ (fun hHeld => ?_)
              · (try dsimp only)
                go_keep
              refine wpAnyH_take (i := 0) (oi := ?oi0z) (v := ?v0z) ?hi0z (by kernel_rfl) (by kernel_rfl) (by kernel_rfl) ?hQ0z ?hy0z (by assumption) ?rest0z
              case hi0z => (simp only [List.getElem?_toArray, List.getElem?_cons_zero]; rfl)
              case hQ0z => exact fun _ _ _ h => h
              case hy0z => exact Or.inl ⟨by rfl, by (intro w hSw; (try dsimp only at hSw); go_simp; try with_reducible rfl)⟩
              (try simp only [Act.put, List.setIfInBounds_toArray, List.set_cons_zero, List.set_cons_succ])
              refine wpAnyH_take (i := 1) (oi := ?oi1z) (v := ?v1z) ?hi1z (by kernel_rfl) (by kernel_rfl) (by kernel_rfl) ?hQ1z ?hy1z (by assumption) ?rest1z
              case hi1z => (simp only [List.getElem?_toArray, List.getElem?_cons_succ, List.getElem?_cons_zero]; rfl)
              case hQ1z => exact fun _ _ _ h => h
              case hy1z => exact Or.inl ⟨by rfl, by (intro w hSw; (try dsimp only at hSw); go_simp; try with_reducible rfl)⟩
              (try simp only [Act.put, List.setIfInBounds_toArray, List.set_cons_zero, List.set_cons_succ])
              refine wpAnyH_take (i := 2) (oi := ?oi2z) (v := ?v2z) ?hi2z (by kernel_rfl) (by kernel_rfl) (by kernel_rfl) ?hQ2z ?hy2z (by assumption) ?rest2z
              case hi2z => (simp only [List.getElem?_toArray, List.getElem?_cons_succ, List.getElem?_cons_zero]; rfl)
              case hQ2z => exact fun _ _ _ h => h
              case hy2z => exact Or.inl ⟨by rfl, by (intro w hSw; (try dsimp only at hSw); go_simp; try with_reducible rfl)⟩
              (try simp only [Act.put, List.setIfInBounds_toArray, List.set_cons_zero, List.set_cons_succ])
              refine wpAnyH_take (i := 3) (oi := ?oi3z) (v := ?v3z) ?hi3z (by kernel_rfl) (by kernel_rfl) (by kernel_rfl) ?hQ3z ?hy3z (by assumption) ?rest3z
              case hi3z => (simp only [List.getElem?_toArray, List.getElem?_cons_succ, List.getElem?_cons_zero]; rfl)
              case hQ3z => exact fun _ _ _ h => h
              case hy3z => exact Or.inl ⟨by rfl, by (intro w hSw; (try dsimp only at hSw); go_simp; try with_reducible rfl)⟩
              (try simp only [Act.put, List.setIfInBounds_toArray, List.set_cons_zero, List.set_cons_succ])
              refine wpAnyH_take (i := 4) (oi := ?oi4z) (v := undef) ?hi4z (by kernel_rfl) (by kernel_rfl) (by kernel_rfl) ?hQ4z ?hy4z (by assumption) ?rest4z
              case hi4z => (simp only [List.getElem?_toArray, List.getElem?_cons_succ, List.getElem?_cons_zero]; rfl)
              case hQ4z => exact fun _ _ _ h => h
              case hy4z => exact Or.inr ⟨by rfl, rfl⟩
              (try simp only [Act.put, List.setIfInBounds_toArray, List.set_cons_zero, List.set_cons_succ])
              refine wpAnyH_take (i := 5) (oi := ?oi5z) (v := undef) ?hi5z (by kernel_rfl) (by kernel_rfl) (by kernel_rfl) ?hQ5z ?hy5z (by assumption) ?rest5z
              case hi5z => (simp only [List.getElem?_toArray, List.getElem?_cons_succ, List.getElem?_cons_zero]; rfl)
              case hQ5z => exact fun _ _ _ h => h
              case hy5z => exact Or.inr ⟨by rfl, rfl⟩
              (try simp only [Act.put, List.setIfInBounds_toArray, List.set_cons_zero, List.set_cons_succ])
              refine wpAnyH_take (i := 6) (oi := ?oi6z) (v := ?v6z) ?hi6z (by kernel_rfl) (by kernel_rfl) (by kernel_rfl) ?hQ6z ?hy6z (by assumption) ?rest6z
              case hi6z => (simp only [List.getElem?_toArray, List.getElem?_cons_succ, List.getElem?_cons_zero]; rfl)
              case hQ6z => exact fun _ _ _ h => h
              case hy6z => exact Or.inl ⟨by rfl, by (intro w hSw; (try dsimp only at hSw); go_simp; try with_reducible rfl)⟩
              (try simp only [Act.put, List.setIfInBounds_toArray, List.set_cons_zero, List.set_cons_succ])
              refine wpAnyH_take (i := 7) (oi := ?oi7z) (v := ?v7z) ?hi7z (by kernel_rfl) (by kernel_rfl) (by kernel_rfl) ?hQ7z ?hy7z (by assumption) ?rest7z
              case hi7z => (simp only [List.getElem?_toArray, List.getElem?_cons_succ, List.getElem?_cons_zero]; rfl)
              case hQ7z => exact fun _ _ _ h => h
              case hy7z => exact Or.inl ⟨by rfl, by (intro w hSw; (try dsimp only at hSw); go_simp; try with_reducible rfl)⟩
              (try simp only [Act.put, List.setIfInBounds_toArray, List.set_cons_zero, List.set_cons_succ])
              refine wpAnyH_take (i := 8) (oi := ?oi8z) (v := ?v8z) ?hi8z (by kernel_rfl) (by kernel_rfl) (by kernel_rfl) ?hQ8z ?hy8z (by assumption) ?rest8z
              case hi8z => (simp only [List.getElem?_toArray, List.getElem?_cons_succ, List.getElem?_cons_zero]; rfl)
              case hQ8z => exact fun _ _ _ h => h
              case hy8z => exact Or.inl ⟨by rfl, by (intro w hSw; (try dsimp only at hSw); go_simp; try with_reducible rfl)⟩
              (try simp only [Act.put, List.setIfInBounds_toArray, List.set_cons_zero, List.set_cons_succ])
              refine wpAnyH_take (i := 9) (oi := ?oi9z) (v := ?v9z) ?hi9z (by kernel_rfl) (by kernel_rfl) (by kernel_rfl) ?hQ9z ?hy9z (by assumption) ?rest9z
              case hi9z => (simp only [List.getElem?_toArray, List.getElem?_cons_succ, List.getElem?_cons_zero]; rfl)
              case hQ9z => exact fun _ _ _ h => h
              case hy9z => exact Or.inl ⟨by rfl, by (intro w hSw; (try dsimp only at hSw); go_simp; try with_reducible rfl)⟩
              (try simp only [Act.put, List.setIfInBounds_toArray, List.set_cons_zero, List.set_cons_succ])
              refine wpAnyH_take (i := 10) (oi := ?oi10z) (v := ?v10z) ?hi10z (by kernel_rfl) (by kernel_rfl) (by kernel_rfl) ?hQ10z ?hy10z (by assumption) ?rest10z
              case hi10z => (simp only [List.getElem?_toArray, List.getElem?_cons_succ, List.getElem?_cons_zero]; rfl)
              case hQ10z => exact fun _ _ _ h => h
              case hy10z => exact Or.inl ⟨by rfl, by (intro w hSw; (try dsimp only at hSw); go_simp; try with_reducible rfl)⟩
              (try simp only [Act.put, List.setIfInBounds_toArray, List.set_cons_zero, List.set_cons_succ])
              refine wpAnyH_take (i := 11) (oi := ?oi11z) (v := ?v11z) ?hi11z (by kernel_rfl) (by kernel_rfl) (by kernel_rfl) ?hQ11z ?hy11z (by assumption) ?rest11z
              case hi11z => (simp only [List.getElem?_toArray, List.getElem?_cons_succ, List.getElem?_cons_zero]; rfl)
              case hQ11z => exact fun _ _ _ h => h
              case hy11z => exact Or.inl ⟨by rfl, by (intro w hSw; (try dsimp only at hSw); go_simp; try with_reducible rfl)⟩
              (try simp only [Act.put, List.setIfInBounds_toArray, List.set_cons_zero, List.set_cons_succ])
              refine wpAnyH_take (i := 12) (oi := ?oi12z) (v := undef) ?hi12z (by kernel_rfl) (by kernel_rfl) (by kernel_rfl) ?hQ12z ?hy12z (by assumption) ?rest12z
              case hi12z => (simp only [List.getElem?_toArray, List.getElem?_cons_succ, List.getElem?_cons_zero]; rfl)
              case hQ12z => exact fun _ _ _ h => h
              case hy12z => exact Or.inr ⟨by rfl, rfl⟩
              (try simp only [Act.put, List.setIfInBounds_toArray, List.set_cons_zero, List.set_cons_succ])
              refine wpAnyH_take (i := 13) (oi := ?oi13z) (v := undef) ?hi13z (by kernel_rfl) (by kernel_rfl) (by kernel_rfl) ?hQ13z ?hy13z (by assumption) ?rest13z
              case hi13z => (simp only [List.getElem?_toArray, List.getElem?_cons_succ, List.getElem?_cons_zero]; rfl)
              case hQ13z => exact fun _ _ _ h => h
              case hy13z => exact Or.inr ⟨by rfl, rfl⟩
              (try simp only [Act.put, List.setIfInBounds_toArray, List.set_cons_zero, List.set_cons_succ])
              refine wpAnyH_take (i := 14) (oi := ?oi14z) (v := ?v14z) ?hi14z (by kernel_rfl) (by kernel_rfl) (by kernel_rfl) ?hQ14z ?hy14z (by assumption) ?rest14z
              case hi14z => (simp only [List.getElem?_toArray, List.getElem?_cons_succ, List.getElem?_cons_zero]; rfl)
              case hQ14z => exact fun _ _ _ h => h
              case hy14z => exact Or.inl ⟨by rfl, by (intro w hSw; (try dsimp only at hSw); go_simp; try with_reducible rfl)⟩
              (try simp only [Act.put, List.setIfInBounds_toArray, List.set_cons_zero, List.set_cons_succ])
              refine wpAnyH_take (i := 15) (oi := ?oi15z) (v := ?v15z) ?hi15z (by kernel_rfl) (by kernel_rfl) (by kernel_rfl) ?hQ15z ?hy15z (by assumption) ?rest15z
              case hi15z => (simp only [List.getElem?_toArray, List.getElem?_cons_succ, List.getElem?_cons_zero]; rfl)
              case hQ15z => exact fun _ _ _ h => h
              case hy15z => exact Or.inl ⟨by rfl, by (intro w hSw; (try dsimp only at hSw); go_simp; try with_reducible rfl)⟩
              (try simp only [Act.put, List.setIfInBounds_toArray, List.set_cons_zero, List.set_cons_succ])
              refine wpAnyH_take (i := 16) (oi := ?oi16z) (v := ?v16z) ?hi16z (by kernel_rfl) (by kernel_rfl) (by kernel_rfl) ?hQ16z ?hy16z (by assumption) ?rest16z
              case hi16z => (simp only [List.getElem?_toArray, List.getElem?_cons_succ, List.getElem?_cons_zero]; rfl)
              case hQ16z => exact fun _ _ _ h => h
              case hy16z => exact Or.inl ⟨by rfl, by (intro w hSw; (try dsimp only at hSw); go_simp; try with_reducible rfl)⟩
              (try simp only [Act.put, List.setIfInBounds_toArray, List.set_cons_zero, List.set_cons_succ])
              refine wpAnyH_take (i := 17) (oi := ?oi17z) (v := ?v17z) ?hi17z (by kernel_rfl) (by kernel_rfl) (by kernel_rfl) ?hQ17z ?hy17z (by assumption) ?rest17z
              case hi17z => (simp only [List.getElem?_toArray, List.getElem?_cons_succ, List.getElem?_cons_zero]; rfl)
              case hQ17z => exact fun _ _ _ h => h
              case hy17z => exact Or.inl ⟨by rfl, by (intro w hSw; (try dsimp only at hSw); go_simp; try with_reducible rfl)⟩
              (try simp only [Act.put, List.setIfInBounds_toArray, List.set_cons_zero, List.set_cons_succ])
              refine wpAnyH_take (i := 18) (oi := ?oi18z) (v := ?v18z) ?hi18z (by kernel_rfl) (by kernel_rfl) (by kernel_rfl) ?hQ18z ?hy18z (by assumption) ?rest18z
              case hi18z => (simp only [List.getElem?_toArray, List.getElem?_cons_succ, List.getElem?_cons_zero]; rfl)
              case hQ18z => exact fun _ _ _ h => h
              case hy18z => exact Or.inl ⟨by rfl, by (intro w hSw; (try dsimp only at hSw); go_simp; try with_reducible rfl)⟩
              (try simp only [Act.put, List.setIfInBounds_toArray, List.set_cons_zero, List.set_cons_succ])
              refine wpAnyH_take (i := 19) (oi := ?oi19z) (v := ?v19z) ?hi19z (by kernel_rfl) (by kernel_rfl) (by kernel_rfl) ?hQ19z ?hy19z (by assumption) ?rest19z
              case hi19z => (simp only [List.getElem?_toArray, List.getElem?_cons_succ, List.getElem?_cons_zero]; rfl)
              case hQ19z => exact fun _ _ _ h => h
              case hy19z => exact Or.inl ⟨by rfl, by (intro w hSw; (try dsimp only at hSw); go_simp; try with_reducible rfl)⟩
              (try simp only [Act.put, List.setIfInBounds_toArray, List.set_cons_zero, List.set_cons_succ])
              refine wpAnyH_take (i := 20) (oi := ?oi20z) (v := ?v20z) ?hi20z (by kernel_rfl) (by kernel_rfl) (by kernel_rfl) ?hQ20z ?hy20z (by assumption) ?rest20z
              case hi20z => (simp only [List.getElem?_toArray, List.getElem?_cons_succ, List.getElem?_cons_zero]; rfl)
              case hQ20z => exact fun _ _ _ h => h
              case hy20z => exact Or.inl ⟨by rfl, by (intro w hSw; (try dsimp only at hSw); go_simp; try with_reducible rfl)⟩
              (try simp only [Act.put, List.setIfInBounds_toArray, List.set_cons_zero, List.set_cons_succ])
              refine wpAnyH_take (i := 21) (oi := ?oi21z) (v := ?v21z) ?hi21z (by kernel_rfl) (by kernel_rfl) (by kernel_rfl) ?hQ21z ?hy21z (by assumption) ?rest21z
              case hi21z => (simp only [List.getElem?_toArray, List.getElem?_cons_succ, List.getElem?_cons_zero]; rfl)
              case hQ21z => exact fun _ _ _ h => h
              case hy21z => exact Or.inl ⟨by rfl, by (intro w hSw; (try dsimp only at hSw); go_simp; try with_reducible rfl)⟩
              (try simp only [Act.put, List.setIfInBounds_toArray, List.set_cons_zero, List.set_cons_succ])
              refine wpAnyH_take (i := 22) (oi := ?oi22z) (v := ?v22z) ?hi22z (by kernel_rfl) (by kernel_rfl) (by kernel_rfl) ?hQ22z ?hy22z (by assumption) ?rest22z
              case hi22z => (simp only [List.getElem?_toArray, List.getElem?_cons_succ, List.getElem?_cons_zero]; rfl)
              case hQ22z => exact fun _ _ _ h => h
              case hy22z => exact Or.inl ⟨by rfl, by (intro w hSw; (try dsimp only at hSw); go_simp; try with_reducible rfl)⟩
              (try simp only [Act.put, List.setIfInBounds_toArray, List.set_cons_zero, List.set_cons_succ])
              refine wpAnyH_take (i := 23) (oi := ?oi23z) (v := ?v23z) ?hi23z (by kernel_rfl) (by kernel_rfl) (by kernel_rfl) ?hQ23z ?hy23z (by assumption) ?rest23z
              case hi23z => (simp only [List.getElem?_toArray, List.getElem?_cons_succ, List.getElem?_cons_zero]; rfl)
              case hQ23z => exact fun _ _ _ h => h
              case hy23z => exact Or.inl ⟨by rfl, by (intro w hSw; (try dsimp only at hSw); go_simp; try with_reducible rfl)⟩
              (try simp only [Act.put, List.setIfInBounds_toArray, List.set_cons_zero, List.set_cons_succ])
              refine wpAnyH_take (i := 24) (oi := ?oi24z) (v := ?v24z) ?hi24z (by kernel_rfl) (by kernel_rfl) (by kernel_rfl) ?hQ24z ?hy24z (by assumption) ?rest24z
              case hi24z => (simp only [List.getElem?_toArray, List.getElem?_cons_succ, List.getElem?_cons_zero]; rfl)
              case hQ24z => exact fun _ _ _ h => h
              case hy24z => exact Or.inl ⟨by rfl, by (intro w hSw; (try dsimp only at hSw); go_simp; try with_reducible rfl)⟩
              (try simp only [Act.put, List.setIfInBounds_toArray, List.set_cons_zero, List.set_cons_succ])
              refine wpAnyH_take (i := 25) (oi := ?oi25z) (v := ?v25z) ?hi25z (by kernel_rfl) (by kernel_rfl) (by kernel_rfl) ?hQ25z ?hy25z (by assumption) ?rest25z
              case hi25z => (simp only [List.getElem?_toArray, List.getElem?_cons_succ, List.getElem?_cons_zero]; rfl)
              case hQ25z => exact fun _ _ _ h => h
              case hy25z => exact Or.inl ⟨by rfl, by (intro w hSw; (try dsimp only at hSw); go_simp; try with_reducible rfl)⟩
              (try simp only [Act.put, List.setIfInBounds_toArray, List.set_cons_zero, List.set_cons_succ])
              refine wpAnyH_take (i := 26) (oi := ?oi26z) (v := ?v26z) ?hi26z (by kernel_rfl) (by kernel_rfl) (by kernel_rfl) ?hQ26z ?hy26z (by assumption) ?rest26z
              case hi26z => (simp only [List.getElem?_toArray, List.getElem?_cons_succ, List.getElem?_cons_zero]; rfl)
              case hQ26z => exact fun _ _ _ h => h
              case hy26z => exact Or.inl ⟨by rfl, by (intro w hSw; (try dsimp only at hSw); go_simp; try with_reducible rfl)⟩
              (try simp only [Act.put, List.setIfInBounds_toArray, List.set_cons_zero, List.set_cons_succ])
              refine wpAnyH_take (i := 27) (oi := ?oi27z) (v := ?v27z) ?hi27z (by kernel_rfl) (by kernel_rfl) (by kernel_rfl) ?hQ27z ?hy27z (by assumption) ?rest27z
              case hi27z => (simp only [List.getElem?_toArray, List.getElem?_cons_succ, List.getElem?_cons_zero]; rfl)
              case hQ27z => exact fun _ _ _ h => h
              case hy27z => exact Or.inl ⟨by rfl, by (intro w hSw; (try dsimp only at hSw); go_simp; try with_reducible rfl)⟩
              (try simp only [Act.put, List.setIfInBounds_toArray, List.set_cons_zero, List.set_cons_succ])
              refine wpAnyH_take (i := 28) (oi := ?oi28z) (v := ?v28z) ?hi28z (by kernel_rfl) (by kernel_rfl) (by kernel_rfl) ?hQ28z ?hy28z (by assumption) ?rest28z
              case hi28z => (simp only [List.getElem?_toArray, List.getElem?_cons_succ, List.getElem?_cons_zero]; rfl)
              case hQ28z => exact fun _ _ _ h => h
              case hy28z => exact Or.inl ⟨by rfl, by (intro w hSw; (try dsimp only at hSw); go_simp; try with_reducible rfl)⟩
              (try simp only [Act.put, List.setIfInBounds_toArray, List.set_cons_zero, List.set_cons_succ])
              refine wpAnyH_take (i := 29) (oi := ?oi29z) (v := ?v29z) ?hi29z (by kernel_rfl) (by kernel_rfl) (by kernel_rfl) ?hQ29z ?hy29z (by assumption) ?rest29z
              case hi29z => (simp only [List.getElem?_toArray, List.getElem?_cons_succ, List.getElem?_cons_zero]; rfl)
              case hQ29z => exact fun _ _ _ h => h
              case hy29z => exact Or.inl ⟨by rfl, by (intro w hSw; (try dsimp only at hSw); go_simp; try with_reducible rfl)⟩
              (try simp only [Act.put, List.setIfInBounds_toArray, List.set_cons_zero, List.set_cons_succ])
              refine wpAnyH_take (i := 30) (oi := ?oi30z) (v := ?v30z) ?hi30z (by kernel_rfl) (by kernel_rfl) (by kernel_rfl) ?hQ30z ?hy30z (by assumption) ?rest30z
              case hi30z => (simp only [List.getElem?_toArray, List.getElem?_cons_succ, List.getElem?_cons_zero]; rfl)
              case hQ30z => exact fun _ _ _ h => h
              case hy30z => exact Or.inl ⟨by rfl, by (intro w hSw; (try dsimp only at hSw); go_simp; try with_reducible rfl)⟩
              (try simp only [Act.put, List.setIfInBounds_toArray, List.set_cons_zero, List.set_cons_succ])
              refine wpAnyH_take (i := 31) (oi := ?oi31z) (v := ?v31z) ?hi31z (by kernel_rfl) (by kernel_rfl) (by kernel_rfl) ?hQ31z ?hy31z (by assumption) ?rest31z
              case hi31z => (simp only [List.getElem?_toArray, List.getElem?_cons_succ, List.getElem?_cons_zero]; rfl)
              case hQ31z => exact fun _ _ _ h => h
              case hy31z => exact Or.inl ⟨by rfl, by (intro w hSw; (try dsimp only at hSw); go_simp; try with_reducible rfl)⟩
              (try simp only [Act.put, List.setIfInBounds_toArray, List.set_cons_zero, List.set_cons_succ])
              refine wpAnyH_take (i := 32) (oi := ?oi32z) (v := ?v32z) ?hi32z (by kernel_rfl) (by kernel_rfl) (by kernel_rfl) ?hQ32z ?hy32z (by assumption) ?rest32z
              case hi32z => (simp only [List.getElem?_toArray, List.getElem?_cons_succ, List.getElem?_cons_zero]; rfl)
              case hQ32z => exact fun _ _ _ h => h
              case hy32z => exact Or.inl ⟨by rfl, by (intro w hSw; (try dsimp only at hSw); go_simp; try with_reducible rfl)⟩
              (try simp only [Act.put, List.setIfInBounds_toArray, List.set_cons_zero, List.set_cons_succ])
              refine wpAnyH_take (i := 33) (oi := ?oi33z) (v := ?v33z) ?hi33z (by kernel_rfl) (by kernel_rfl) (by kernel_rfl) ?hQ33z ?hy33z (by assumption) ?rest33z
              case hi33z => (simp only [List.getElem?_toArray, List.getElem?_cons_succ, List.getElem?_cons_zero]; rfl)
              case hQ33z => exact fun _ _ _ h => h
              case hy33z => exact Or.inl ⟨by rfl, by (intro w hSw; (try dsimp only at hSw); go_simp; try with_reducible rfl)⟩
              (try simp only [Act.put, List.setIfInBounds_toArray, List.set_cons_zero, List.set_cons_succ])
              refine wpAnyH_ready (rs := [34]) (by kernel_rfl) (by simp) ?_
              refine AllReadyH.cons (o := ?oi34z) ?ho34z ?hK34z AllReadyH.nil
              case ho34z => (simp only [List.getElem?_toArray, List.getElem?_cons_succ, List.getElem?_cons_zero]; rfl)
              intro K hK
              go_simp
              (first
                      | (go_at_call 4; ((with_reducible refine (CN.out _ _ (hr.step (by go_grown))).mono ?_); rintro e1 w' ⟨rfl, hk3⟩; (try clear hX); have hX := hk3.2; (try clear mi0 mi1 mk0 mk1 mr0 mr1); obtain ⟨mi0, mi1⟩ := (hL.below hX).2 i hi2; obtain ⟨mk0, mk1⟩ := (hL.below hX).2 k hk2; obtain ⟨mr0, mr1⟩ := (hL.below hX).2 r hr9; clear hk3))
                      | (go_at_call 3; ((with_reducible refine (CO.out _ _ (hr.step (by go_grown))).mono ?_); rintro e1 w' ⟨rfl, hk3⟩; (try clear hX); have hX := hk3.2; (try clear mi0 mi1 mk0 mk1 mr0 mr1); obtain ⟨mi0, mi1⟩ := (hL.below hX).2 i hi2; obtain ⟨mk0, mk1⟩ := (hL.below hX).2 k hk2; obtain ⟨mr0, mr1⟩ := (hL.below hX).2 r hr9; clear hk3)))
              (try go_wp2_with fail)
              refine hK.out _ _ ?_ (fun hHeld => ?_)
              · (try dsimp only)
                go_keep
              clear hK K
              (try simp only [Act.put, List.setIfInBounds_toArray, List.set_cons_zero, List.set_cons_succ])
              refine wpAnyH_take (i := 35) (oi := ?oi35z) (v := ?v35z) ?hi35z (by kernel_rfl) (by kernel_rfl) (by kernel_rfl) ?hQ35z ?hy35z (by assumption) ?rest35z
              case hi35z => (simp only [List.getElem?_toArray, List.getElem?_cons_succ, List.getElem?_cons_zero]; rfl)
              case hQ35z => exact fun _ _ _ h => h
              case hy35z => exact Or.inl ⟨by rfl, by (intro w hSw; (try dsimp only at hSw); go_simp; try with_reducible rfl)⟩
              (try simp only [Act.put, List.setIfInBounds_toArray, List.set_cons_zero, List.set_cons_succ])
              refine wpAnyH_take (i := 36) (oi := ?oi36z) (v := ?v36z) ?hi36z (by kernel_rfl) (by kernel_rfl) (by kernel_rfl) ?hQ36z ?hy36z (by assumption) ?rest36z
              case hi36z => (simp only [List.getElem?_toArray, List.getElem?_cons_succ, List.getElem?_cons_zero]; rfl)
              case hQ36z => exact fun _ _ _ h => h
              case hy36z => exact Or.inl ⟨by rfl, by (intro w hSw; (try dsimp only at hSw); go_simp; try with_reducible rfl)⟩
              (try simp only [Act.put, List.setIfInBounds_toArray, List.set_cons_zero, List.set_cons_succ])
              refine wpAnyH_take (i := 37) (oi := ?oi37z) (v := ?v37z) ?hi37z (by kernel_rfl) (by kernel_rfl) (by kernel_rfl) ?hQ37z ?hy37z (by assumption) ?rest37z
              case hi37z => (simp only [List.getElem?_toArray, List.getElem?_cons_succ, List.getElem?_cons_zero]; rfl)
              case hQ37z => exact fun _ _ _ h => h
              case hy37z => exact Or.inl ⟨by rfl, by (intro w hSw; (try dsimp only at hSw); go_simp; try with_reducible rfl)⟩
              (try simp only [Act.put, List.setIfInBounds_toArray, List.set_cons_zero, List.set_cons_succ])
              refine wpAnyH_take (i := 38) (oi := ?oi38z) (v := ?v38z) ?hi38z (by kernel_rfl) (by kernel_rfl) (by kernel_rfl) ?hQ38z ?hy38z (by assumption) ?rest38z
              case hi38z => (simp only [List.getElem?_toArray, List.getElem?_cons_succ, List.getElem?_cons_zero]; rfl)
              case hQ38z => exact fun _ _ _ h => h
              case hy38z => exact Or.inl ⟨by rfl, by (intro w hSw; (try dsimp only at hSw); go_simp; try with_reducible rfl)⟩
              (try simp only [Act.put, List.setIfInBounds_toArray, List.set_cons_zero, List.set_cons_succ])
              refine wpAnyH_take (i := 39) (oi := ?oi39z) (v := ?v39z) ?hi39z (by kernel_rfl) (by kernel_rfl) (by kernel_rfl) ?hQ39z ?hy39z (by assumption) ?rest39z
              case hi39z => (simp only [List.getElem?_toArray, List.getElem?_cons_succ, List.getElem?_cons_zero]; rfl)
              case hQ39z => exact fun _ _ _ h => h
              case hy39z => exact Or.inl ⟨by rfl, by (intro w hSw; (try dsimp only at hSw); go_simp; try with_reducible rfl)⟩
              (try simp only [Act.put, List.setIfInBounds_toArray, List.set_cons_zero, List.set_cons_succ])
              refine wpAnyH_take (i := 40) (oi := ?oi40z) (v := ?v40z) ?hi40z (by kernel_rfl) (by kernel_rfl) (by kernel_rfl) ?hQ40z ?hy40z (by assumption) ?rest40z
              case hi40z => (simp only [List.getElem?_toArray, List.getElem?_cons_succ, List.getElem?_cons_zero]; rfl)
              case hQ40z => exact fun _ _ _ h => h
              case hy40z => exact Or.inl ⟨by rfl, by (intro w hSw; (try dsimp only at hSw); go_simp; try with_reducible rfl)⟩
              (try simp only [Act.put, List.setIfInBounds_toArray, List.set_cons_zero, List.set_cons_succ])
              refine wpAnyH_take (i := 41) (oi := ?oi41z) (v := ?v41z) ?hi41z (by kernel_rfl) (by kernel_rfl) (by kernel_rfl) ?hQ41z ?hy41z (by assumption) ?rest41z
              case hi41z => (simp only [List.getElem?_toArray, List.getElem?_cons_succ, List.getElem?_cons_zero]; rfl)
              case hQ41z => exact fun _ _ _ h => h
              case hy41z => exact Or.inl ⟨by rfl, by (intro w hSw; (try dsimp only at hSw); go_simp; try with_reducible rfl)⟩
              (try simp only [Act.put, List.setIfInBounds_toArray, List.set_cons_zero, List.set_cons_succ])
              refine wpAnyH_take (i := 42) (oi := ?oi42z) (v := ?v42z) ?hi42z (by kernel_rfl) (by kernel_rfl) (by kernel_rfl) ?hQ42z ?hy42z (by assumption) ?rest42z
              case hi42z => (simp only [List.getElem?_toArray, List.getElem?_cons_succ, List.getElem?_cons_zero]; rfl)
              case hQ42z => exact fun _ _ _ h => h
              case hy42z => exact Or.inl ⟨by rfl, by (intro w hSw; (try dsimp only at hSw); go_simp; try with_reducible rfl)⟩
              (try simp only [Act.put, List.setIfInBounds_toArray, List.set_cons_zero, List.set_cons_succ])
              refine wpAnyH_take (i := 43) (oi := ?oi43z) (v := ?v43z) ?hi43z (by kernel_rfl) (by kernel_rfl) (by kernel_rfl) ?hQ43z ?hy43z (by assumption) ?rest43z
              case hi43z => (simp only [List.getElem?_toArray, List.getElem?_cons_succ, List.getElem?_cons_zero]; rfl)
              case hQ43z => exact fun _ _ _ h => h
              case hy43z => exact Or.inl ⟨by rfl, by (intro w hSw; (try dsimp only at hSw); go_simp; try with_reducible rfl)⟩
              (try simp only [Act.put, List.setIfInBounds_toArray, List.set_cons_zero, List.set_cons_succ])
              refine wpAnyH_take (i := 44) (oi := ?oi44z) (v := ?v44z) ?hi44z (by kernel_rfl) (by kernel_rfl) (by kernel_rfl) ?hQ44z ?hy44z (by assumption) ?rest44z
              case hi44z => (simp only [List.getElem?_toArray, List.getElem?_cons_succ, List.getElem?_cons_zero]; rfl)
              case hQ44z => exact fun _ _ _ h => h
              case hy44z => exact Or.inl ⟨by rfl, by (intro w hSw; (try dsimp only at hSw); go_simp; try with_reducible rfl)⟩
              (try simp only [Act.put, List.setIfInBounds_toArray, List.set_cons_zero, List.set_cons_succ])
              refine wpAnyH_take (i := 45) (oi := ?oi45z) (v := ?v45z) ?hi45z (by kernel_rfl) (by kernel_rfl) (by kernel_rfl) ?hQ45z ?hy45z (by assumption) ?rest45z
              case hi45z => (simp only [List.getElem?_toArray, List.getElem?_cons_succ, List.getElem?_cons_zero]; rfl)
              case hQ45z => exact fun _ _ _ h => h
              case hy45z => exact Or.inl ⟨by rfl, by (intro w hSw; (try dsimp only at hSw); go_simp; try with_reducible rfl)⟩
              (try simp only [Act.put, List.setIfInBounds_toArray, List.set_cons_zero, List.set_cons_succ])
              refine wpAnyH_take (i := 46) (oi := ?oi46z) (v := ?v46z) ?hi46z (by kernel_rfl) (by kernel_rfl) (by kernel_rfl) ?hQ46z ?hy46z (by assumption) ?rest46z
              case hi46z => (simp only [List.getElem?_toArray, List.getElem?_cons_succ, List.getElem?_cons_zero]; rfl)
              case hQ46z => exact fun _ _ _ h => h
              case hy46z => exact Or.inl ⟨by rfl, by (intro w hSw; (try dsimp only at hSw); go_simp; try with_reducible rfl)⟩
              (try simp only [Act.put, List.setIfInBounds_toArray, List.set_cons_zero, List.set_cons_succ])
              refine wpAnyH_take (i := 47) (oi := ?oi47z) (v := ?v47z) ?hi47z (by kernel_rfl) (by kernel_rfl) (by kernel_rfl) ?hQ47z ?hy47z (by assumption) ?rest47z
              case hi47z => (simp only [List.getElem?_toArray, List.getElem?_cons_succ, List.getElem?_cons_zero]; rfl)
              case hQ47z => exact fun _ _ _ h => h
              case hy47z => exact Or.inl ⟨by rfl, by (intro w hSw; (try dsimp only at hSw); go_simp; try with_reducible rfl)⟩
              (try simp only [Act.put, List.setIfInBounds_toArray, List.set_cons_zero, List.set_cons_succ])
              refine wpAnyH_take (i := 48) (oi := ?oi48z) (v := ?v48z) ?hi48z (by kernel_rfl) (by kernel_rfl) (by kernel_rfl) ?hQ48z ?hy48z (by assumption) ?rest48z
              case hi48z => (simp only [List.getElem?_toArray, List.getElem?_cons_succ, List.getElem?_cons_zero]; rfl)
              case hQ48z => exact fun _ _ _ h => h
              case hy48z => exact Or.inl ⟨by rfl, by (intro w hSw; (try dsimp only at hSw); go_simp; try with_reducible rfl)⟩
              (try simp only [Act.put, List.setIfInBounds_toArray, List.set_cons_zero, List.set_cons_succ])
              refine wpAnyH_take (i := 49) (oi := ?oi49z) (v := ?v49z) ?hi49z (by kernel_rfl) (by kernel_rfl) (by kernel_rfl) ?hQ49z ?hy49z (by assumption) ?rest49z
              case hi49z => (simp only [List.getElem?_toArray, List.getElem?_cons_succ, List.getElem?_cons_zero]; rfl)
              case hQ49z => exact fun _ _ _ h => h
              case hy49z => exact Or.inl ⟨by rfl, by (intro w hSw; (try dsimp only at hSw); go_simp; try with_reducible rfl)⟩
              (try simp only [Act.put, List.setIfInBounds_toArray, List.set_cons_zero, List.set_cons_succ])
              refine wpAnyH_take (i := 50) (oi := ?oi50z) (v := ?v50z) ?hi50z (by kernel_rfl) (by kernel_rfl) (by kernel_rfl) ?hQ50z ?hy50z (by assumption) ?rest50z
              case hi50z => (simp only [List.getElem?_toArray, List.getElem?_cons_succ, List.getElem?_cons_zero]; rfl)
              case hQ50z => exact fun _ _ _ h => h
              case hy50z => exact Or.inl ⟨by rfl, by (intro w hSw; (try dsimp only at hSw); go_simp; try with_reducible rfl)⟩
              (try simp only [Act.put, List.setIfInBounds_toArray, List.set_cons_zero, List.set_cons_succ])
              refine wpAnyH_take (i := 51) (oi := ?oi51z) (v := ?v51z) ?hi51z (by kernel_rfl) (by kernel_rfl) (by kernel_rfl) ?hQ51z ?hy51z (by assumption) ?rest51z
              case hi51z => (simp only [List.getElem?_toArray, List.getElem?_cons_succ, List.getElem?_cons_zero]; rfl)
              case hQ51z => exact fun _ _ _ h => h
              case hy51z => exact Or.inl ⟨by rfl, by (intro w hSw; (try dsimp only at hSw); go_simp; try with_reducible rfl)⟩
              (try simp only [Act.put, List.setIfInBounds_toArray, List.set_cons_zero, List.set_cons_succ])
              refine wpAnyH_take (i := 52) (oi := ?oi52z) (v := ?v52z) ?hi52z (by kernel_rfl) (by kernel_rfl) (by kernel_rfl) ?hQ52z ?hy52z (by assumption) ?rest52z
              case hi52z => (simp only [List.getElem?_toArray, List.getElem?_cons_succ, List.getElem?_cons_zero]; rfl)
              case hQ52z => exact fun _ _ _ h => h
              case hy52z => exact Or.inl ⟨by rfl, by (intro w hSw; (try dsimp only at hSw); go_simp; try with_reducible rfl)⟩
              (try simp only [Act.put, List.setIfInBounds_toArray, List.set_cons_zero, List.set_cons_succ])
              refine wpAnyH_ready (rs := [53]) (by kernel_rfl) (by simp) ?_
              refine AllReadyH.cons (o := ?oi53z) ?ho53z ?hK53z AllReadyH.nil
              case ho53z => (simp only [List.getElem?_toArray, List.getElem?_cons_succ, List.getElem?_cons_zero]; rfl)
              intro K hK
              go_simp
              (first
                      | (go_at_call 4; ((with_reducible refine (CN.out _ _ (hr.step (by go_grown))).mono ?_); rintro e1 w' ⟨rfl, hk3⟩; (try clear hX); have hX := hk3.2; (try clear mi0 mi1 mk0 mk1 mr0 mr1); obtain ⟨mi0, mi1⟩ := (hL.below hX).2 i hi2; obtain ⟨mk0, mk1⟩ := (hL.below hX).2 k hk2; obtain ⟨mr0, mr1⟩ := (hL.below hX).2 r hr9; clear hk3))
                      | (go_at_call 3; ((with_reducible refine (CO.out _ _ (hr.step (by go_grown))).mono ?_); rintro e1 w' ⟨rfl, hk3⟩; (try clear hX); have hX := hk3.2; (try clear mi0 mi1 mk0 mk1 mr0 mr1); obtain ⟨mi0, mi1⟩ := (hL.below hX).2 i hi2; obtain ⟨mk0, mk1⟩ := (hL.below hX).2 k hk2; obtain ⟨mr0, mr1⟩ := (hL.below hX).2 r hr9; clear hk3)))
              (try go_wp2_with fail)
              refine hK.out _ _ ?_ (fun hHeld => ?_)
              · (try dsimp only)
                go_keep
              clear hK K
              (try simp only [Act.put, List.setIfInBounds_toArray, List.set_cons_zero, List.set_cons_succ])
              refine wpAnyH_take (i := 54) (oi := ?oi54z) (v := ?v54z) ?hi54z (by kernel_rfl) (by kernel_rfl) (by kernel_rfl) ?hQ54z ?hy54z (by assumption) ?rest54z
              case hi54z => (simp only [List.getElem?_toArray, List.getElem?_cons_succ, List.getElem?_cons_zero]; rfl)
              case hQ54z => exact fun _ _ _ h => h
              case hy54z => exact Or.inl ⟨by rfl, by (intro w hSw; (try dsimp only at hSw); go_simp; try with_reducible rfl)⟩
              (try simp only [Act.put, List.setIfInBounds_toArray, List.set_cons_zero, List.set_cons_succ])
              refine wpAnyH_take (i := 55) (oi := ?oi55z) (v := ?v55z) ?hi55z (by kernel_rfl) (by kernel_rfl) (by kernel_rfl) ?hQ55z ?hy55z (by assumption) ?rest55z
              case hi55z => (simp only [List.getElem?_toArray, List.getElem?_cons_succ, List.getElem?_cons_zero]; rfl)
              case hQ55z => exact fun _ _ _ h => h
              case hy55z => exact Or.inl ⟨by rfl, by (intro w hSw; (try dsimp only at hSw); go_simp; try with_reducible rfl)⟩
              (try simp only [Act.put, List.setIfInBounds_toArray, List.set_cons_zero, List.set_cons_succ])
              refine wpAnyH_done (by kernel_rfl) ?_ _
              refine NoPanic.normal ?_
              all_goals
                go_wp2_with fail
                go_roundw
                case rel => exact ⟨k + 1, _, by omega, by go_num, rfl, hL.below hX, ho.step hX⟩
                case measure => simp [intOf]; omega
        · obtain rfl : k = 9 := by omega
          have hk1 : ¬ ((9 : Nat) : Int) < 9 := by omega
          have bb := l_bd i hi2
          have fi := hL.2 i hi2
          obtain ⟨fi0, fi1⟩ := fi
          have hr := Ok.refl ho.1
          have CT : Hid (∀ B X, Ok B X → Calls Tryd.prog 5 #[E2 (lI i) (lD i)] X fun x w' => x = .returned (.bool true) ∧ Ok B w') := fun B X hX => KT.out _ _ B X bb.1 bb.2 hX
          clear bb
          generalize lI i = a at *
          generalize lD i = b at *
          go_wp2_with (go_at_call 5; ((with_reducible refine (CT.out _ _ hr).mono ?_); rintro e1 w' ⟨rfl, hk3⟩))
          go_roundw
          case rel => exact ⟨i + 1, _, _, by omega, by go_num, rfl, rfl, hL.below hk3.2, ho.step hk3.2⟩
          case measure => simp [intOf]; omega
    · obtain rfl : i = 9 := by omega
      have hi1 : ¬ ((9 : Nat) : Int) < 9 := by omega
      clear hi2 hi9
      rw [show ((9 : Nat) : Int) = 9 from rfl] at *
      go_upto_region 14 with fail
      obtain ⟨hT, hbT⟩ := rows4 wr _ rfl
      have ob := ho.step hbT
      have hLb := hL.below hbT
      generalize (wr.alloc (Obj.cells #[Value.int IntKind.i8 (-1), Value.int IntKind.i64 (-1), Value.int IntKind.i8 2, Value.int IntKind.i64 0, Value.int IntKind.i8 (-128), Value.int IntKind.i64 0, Value.int IntKind.i8 1, Value.int IntKind.i64 9223372036854775807] 24)) = W2 at *
      generalize wr.heap.size = t at *
      clear hbT ho hL hi1
      have ho := ob
      have hL := hLb
      clear ob hLb
      go_upto_region 15 with fail
      go_loopw [6] (fun iv wr => ∃ i : Nat, i ≤ 4 ∧ iv = .int .i64 i ∧ ERow 9 lI lD p wr ∧ ERow 4 wI wD t wr ∧ Ok W wr) (fun iv _ => 4 - (intOf iv).toNat)
      case atStart => exact ⟨0, by omega, rfl, hL, hT, ho⟩
      case round =>
        clear hL hT ho
        obtain ⟨i, hi9, rfl, hL, hT, ho⟩ := hrel
        by_cases hi2 : i < 4
        · have hi1 : (i : Int) < 4 := by omega
          have hi0 : (0 : Int) ≤ (i : Int) := by omega
          have bb := w_bd i hi2
          obtain ⟨fi0, fi1⟩ := hT.2 i hi2
          have f40 : wr.cell? ⟨p, 8, none⟩ = some (.int .i8 0) := (hL.2 4 (by omega)).1
          have f41 : wr.cell? ⟨p, 9, none⟩ = some (.int .i64 0) := (hL.2 4 (by omega)).2
          have lp := hL.1
          have hr := Ok.refl ho.1
          have CN : Hid (∀ B X, Ok B X → Calls Tryd.prog 4 #[E2 (wI i) (wD i), E2 0 0] X fun x w' => x = .returned (.bool true) ∧ Ok B w') := fun B X hX => KN.out _ _ _ _ B X bb.1 bb.2 (by unfold I8; omega) (by unfold I64; omega) hX
          have CT : Hid (∀ B X, Ok B X → Calls Tryd.prog 5 #[E2 (wI i) (wD i)] X fun x w' => x = .returned (.bool true) ∧ Ok B w') := fun B X hX => KT.out _ _ B X bb.1 bb.2 hX
          clear bb
          go_upto_region 17 with fail
          go_region_held3 (fun x => x.cell? ⟨t, i * 2, none⟩ = some (.int .i8 (wI i)) ∧ x.cell? ⟨t, i * 2 + 1, none⟩ = some (.int .i64 (wD i)) ∧ x.cell? ⟨p, 8, none⟩ = some (.int .i8 0) ∧ x.cell? ⟨p, 9, none⟩ = some (.int .i64 0)) (go_keep)
            (first
              | (go_at_call 4; ((with_reducible refine (CN.out _ _ (hr.step (by go_grown))).mono ?_); rintro e1 w' ⟨rfl, hk3⟩; (try clear hX); have hX := hk3.2; (try clear mi0 mi1 m40 m41); obtain ⟨mi0, mi1⟩ := (hT.below hX).2 i hi2; have m40 := (hX.cell (p := ⟨p, 8, none⟩) lp).trans f40; have m41 := (hX.cell (p := ⟨p, 9, none⟩) lp).trans f41; clear hk3))
              | (go_at_call 5; ((with_reducible refine (CT.out _ _ (hr.step (by go_grown))).mono ?_); rintro e1 w' ⟨rfl, hk3⟩; (try clear hX); have hX := hk3.2; (try clear mi0 mi1 m40 m41); obtain ⟨mi0, mi1⟩ := (hT.below hX).2 i hi2; have m40 := (hX.cell (p := ⟨p, 8, none⟩) lp).trans f40; have m41 := (hX.cell (p := ⟨p, 9, none⟩) lp).trans f41; clear hk3)))
          all_goals
            go_wp2_with fail
            go_roundw
            case rel => exact ⟨i + 1, by omega, by go_num, hL.below hX, hT.below hX, ho.step hX⟩
            case measure => simp [intOf]; omega
        · obtain rfl : i = 4 := by omega
          have hi1 : ¬ ((4 : Nat) : Int) < 4 := by omega
          have hr := Ok.refl ho.1
          clear hL hT KN KO KT
          go_wp2_with (first
            | (go_at_call 6; ((with_reducible refine (KP.out ⟨#[]⟩ _ _ (by decide) hr).mono ?_); rintro e1 w20 ⟨rfl, hs0⟩))
            | (go_at_call 6; ((with_reducible refine (KP.out ⟨#[45]⟩ _ _ (by decide) hs0).mono ?_); rintro e1 w21 ⟨rfl, hs1⟩))
            | (go_at_call 6; ((with_reducible refine (KP.out ⟨#[73, 110, 102]⟩ _ _ (by decide) hs1).mono ?_); rintro e1 w22 ⟨rfl, hs2⟩))
            | (go_at_call 6; ((with_reducible refine (KP.out ⟨#[45, 45, 105, 110, 102]⟩ _ _ (by decide) hs2).mono ?_); rintro e1 w23 ⟨rfl, hs3⟩))
            | (go_at_call 6; ((with_reducible refine (KP.out ⟨#[105, 110, 102, 32]⟩ _ _ (by decide) hs3).mono ?_); rintro e1 w24 ⟨rfl, hs4⟩))
            | (go_at_call 6; ((with_reducible refine (KP.out ⟨#[45, 48]⟩ _ _ (by decide) hs4).mono ?_); rintro e1 w25 ⟨rfl, hs5⟩))
            | (go_at_call 6; ((with_reducible refine (KP.out ⟨#[48, 48]⟩ _ _ (by decide) hs5).mono ?_); rintro e1 w26 ⟨rfl, hs6⟩))
            | (go_at_call 12; ((with_reducible refine (KL.out _ _ hs6).mono ?_); rintro e1 w30 ⟨rfl, hs7⟩)))
          go_ret
          exact ⟨rfl, (HO.out.step ho.2).step hs7.2⟩
end Go.Proofs.YtjgaoajbcbpbbaaDoor.end8
