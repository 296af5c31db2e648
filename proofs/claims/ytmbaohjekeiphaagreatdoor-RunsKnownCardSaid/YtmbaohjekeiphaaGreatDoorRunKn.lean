/- The law RunsKnown: runs at the ends of all days, two by two: the walk, over the other laws as contracts. -/
import Derived.Test.YtmbaohjekeiphaaGreatDoorLawK
import Derived.Deep.AppendLies
namespace Go.Proofs.YtmbaohjekeiphaaGreatDoor.run9
open Go.RowKit

/-- The nine ends in a block. -/
def BX (X : World) (g : Nat) : Prop := X.heap[g]? = some (.cells #[.int .i8 (-1), .int .i64 0, .int .i8 0, .int .i64 (-9223372036854775808), .int .i8 0, .int .i64 (-9223372036854775807), .int .i8 0, .int .i64 (-1), .int .i8 0, .int .i64 0, .int .i8 0, .int .i64 9223372036854775806, .int .i8 0, .int .i64 9223372036854775807, .int .i8 1, .int .i64 0, .int .i8 3, .int .i64 0] 24 (0, 0))
theorem BX.below {w w' : World} {g B : Nat} (h : BX w g) (hg : g < B) (hb : Below B w w') : BX w' g := (hb.block g hg).trans h
theorem BX.at_ {w : World} {g : Nat} (h : BX w g) (i : Int) (h0 : 0 ≤ i) (h9 : i < 9) : ∃ p q : Int, I8 p ∧ I64 q ∧ w.cell? ⟨g, i.toNat * 2, none⟩ = some (.int .i8 p) ∧ w.cell? ⟨g, i.toNat * 2 + 1, none⟩ = some (.int .i64 q) := by
  rcases (show i = 0 ∨ i = 1 ∨ i = 2 ∨ i = 3 ∨ i = 4 ∨ i = 5 ∨ i = 6 ∨ i = 7 ∨ i = 8 by omega) with rfl | rfl | rfl | rfl | rfl | rfl | rfl | rfl | rfl
  · exact ⟨-1, 0, (by unfold I8; omega), (by unfold I64; omega), cell_of_row w g 0 _ _ _ h, cell_of_row w g 1 _ _ _ h⟩
  · exact ⟨0, -9223372036854775808, (by unfold I8; omega), (by unfold I64; omega), cell_of_row w g 2 _ _ _ h, cell_of_row w g 3 _ _ _ h⟩
  · exact ⟨0, -9223372036854775807, (by unfold I8; omega), (by unfold I64; omega), cell_of_row w g 4 _ _ _ h, cell_of_row w g 5 _ _ _ h⟩
  · exact ⟨0, -1, (by unfold I8; omega), (by unfold I64; omega), cell_of_row w g 6 _ _ _ h, cell_of_row w g 7 _ _ _ h⟩
  · exact ⟨0, 0, (by unfold I8; omega), (by unfold I64; omega), cell_of_row w g 8 _ _ _ h, cell_of_row w g 9 _ _ _ h⟩
  · exact ⟨0, 9223372036854775806, (by unfold I8; omega), (by unfold I64; omega), cell_of_row w g 10 _ _ _ h, cell_of_row w g 11 _ _ _ h⟩
  · exact ⟨0, 9223372036854775807, (by unfold I8; omega), (by unfold I64; omega), cell_of_row w g 12 _ _ _ h, cell_of_row w g 13 _ _ _ h⟩
  · exact ⟨1, 0, (by unfold I8; omega), (by unfold I64; omega), cell_of_row w g 14 _ _ _ h, cell_of_row w g 15 _ _ _ h⟩
  · exact ⟨3, 0, (by unfold I8; omega), (by unfold I64; omega), cell_of_row w g 16 _ _ _ h, cell_of_row w g 17 _ _ _ h⟩
/-- The cells of so many runs. -/
def RX (xs : List Value) (n : Nat) : Prop := xs.length = n * 4 ∧ ∀ k, k < n → ∃ u : Ru, u.In ∧ xs[k * 4]? = some (.int .i8 u.i) ∧ xs[k * 4 + 1]? = some (.int .i64 u.d) ∧ xs[k * 4 + 2]? = some (.int .i8 u.j) ∧ xs[k * 4 + 3]? = some (.int .i64 u.e)
theorem RX.snoc {xs : List Value} {n : Nat} (h : RX xs n) (i d j e : Int) (hi : I8 i) (hd : I64 d) (hj : I8 j) (he : I64 e) : RX (xs ++ [.int .i8 i, .int .i64 d, .int .i8 j, .int .i64 e]) (n + 1) := by
  obtain ⟨hl, ha⟩ := h
  refine ⟨by rw [List.length_append, hl]; simp; omega, fun k hk => ?_⟩
  by_cases hkn : k < n
  · obtain ⟨u, hu, a0, a1, a2, a3⟩ := ha k hkn
    exact ⟨u, hu, by rw [List.getElem?_append_left (by omega)]; exact a0, by rw [List.getElem?_append_left (by omega)]; exact a1, by rw [List.getElem?_append_left (by omega)]; exact a2, by rw [List.getElem?_append_left (by omega)]; exact a3⟩
  · obtain rfl : k = n := by omega
    refine ⟨⟨i, d, j, e⟩, ⟨hi, hd, hj, he⟩, ?_, ?_, ?_, ?_⟩
    all_goals
      rw [List.getElem?_append_right (by omega), hl]
    · rw [show k * 4 - k * 4 = 0 by omega]; rfl
    · rw [show k * 4 + 1 - k * 4 = 1 by omega]; rfl
    · rw [show k * 4 + 2 - k * 4 = 2 by omega]; rfl
    · rw [show k * 4 + 3 - k * 4 = 3 by omega]; rfl
theorem RX.nil : RX [] 0 := ⟨rfl, fun k hk => absurd hk (by omega)⟩
/-- Run number i of a slice. -/
def LX (X : World) (g : Nat) (n : Nat) : Prop := ∀ i : Int, 0 ≤ i → i < n → ∃ u : Ru, u.In ∧ X.cell? ⟨g, i.toNat * 4, none⟩ = some (.int .i8 u.i) ∧ X.cell? ⟨g, i.toNat * 4 + 1, none⟩ = some (.int .i64 u.d) ∧ X.cell? ⟨g, i.toNat * 4 + 2, none⟩ = some (.int .i8 u.j) ∧ X.cell? ⟨g, i.toNat * 4 + 3, none⟩ = some (.int .i64 u.e)
theorem LX.of {w : World} {base g n cap : Nat} {xs : List Value} (h : w.ownsRow base 26 4 (.slice (some ⟨g, 0, none⟩) n cap) n xs) (hx : RX xs n) : LX w g n := fun i h0 hn => by
  obtain ⟨u, hu, a0, a1, a2, a3⟩ := hx.2 i.toNat (by omega)
  exact ⟨u, hu, (h.cellAt _ (by omega)).trans a0, (h.cellAt _ (by omega)).trans a1, (h.cellAt _ (by omega)).trans a2, (h.cellAt _ (by omega)).trans a3⟩
theorem LX.below {w w' : World} {g n B : Nat} (h : LX w g n) (hg : g < B) (hb : Below B w w') : LX w' g n := fun i h0 hn => by
  obtain ⟨u, hu, a0, a1, a2, a3⟩ := h i h0 hn
  exact ⟨u, hu, (hb.cell (p := ⟨g, _, none⟩) hg).trans a0, (hb.cell (p := ⟨g, _, none⟩) hg).trans a1, (hb.cell (p := ⟨g, _, none⟩) hg).trans a2, (hb.cell (p := ⟨g, _, none⟩) hg).trans a3⟩
theorem infoRun : (Tryz.prog.info? 26).map (fun i => (i.zero, i.size)) = some (some (.agg #[.int .i8 0, .int .i64 0, .int .i8 0, .int .i64 0]), 4) := by kernel_rfl
theorem own_below {X Y : World} {base : Nat} {e : TypeId} {size n : Nat} {v : Value} {xs : List Value} (h : X.ownsRow base e size v n xs) (hb : Below X.heap.size X Y) : Y.ownsRow base e size v n xs := by
  refine ⟨h.1, h.2.imp id ?_⟩
  rintro ⟨g, cap, cur, hv, hg, hh, rest⟩
  have hlt : g < X.heap.size := by
    rcases Nat.lt_or_ge g X.heap.size with q | q
    · exact q
    · rw [Array.getElem?_eq_none q] at hh; cases hh
  exact ⟨g, cap, cur, hv, hg, (hb.block g hlt).trans hh, rest⟩
theorem info_run : ∃ i, Tryz.prog.info? 26 = some i ∧ i.zero = some (.agg #[.int .i8 0, .int .i64 0, .int .i8 0, .int .i64 0]) ∧ i.size = 4 := by
  have h := infoRun
  cases hi : Tryz.prog.info? 26 with
  | none => rw [hi] at h; cases h
  | some i =>
    rw [hi] at h
    simp only [Option.map_some, Option.some.injEq, Prod.mk.injEq] at h
    exact ⟨i, rfl, h.1, h.2⟩
theorem run_bytes {i : TypeInfo} (h : Tryz.prog.info? 26 = some i) : i.bytes = 32 := by
  have hb : (Tryz.prog.info? 26).map (·.bytes) = some 32 := by kernel_rfl
  rw [h] at hb
  exact Option.some.inj hb
theorem news4 {X : World} {g : Nat} {a b c d : Value} {t : TypeId} (h : X.heap[g]? = some (.cells #[a, b, c, d] t (0, 0))) : ∀ j u, [a, b, c, d][j]? = some u → X.cell? ((⟨g, 0, none⟩ : Addr).add j) = some u := fun j u hj => by
  have : j = 0 ∨ j = 1 ∨ j = 2 ∨ j = 3 := by
    rcases Nat.lt_or_ge j 4 with q | q
    · omega
    · rw [List.getElem?_eq_none (by simpa using q)] at hj; cases hj
  rcases this with rfl | rfl | rfl | rfl <;> cases hj <;> exact cell_of_row X g _ _ _ _ h

set_option maxRecDepth 100000 in
set_option maxHeartbeats 4000000 in
theorem known_walk (w W : World) (ho : Ok w W) (KP : ∀ a b : Ru, ∀ n : Int, a.In → b.In → I64 n → Hid (∀ B X, Ok B X → Calls Tryz.prog 3 #[V4 a, V4 b, .int .i64 n] X fun x w' => x = .returned (.bool true) ∧ Ok B w'))
    (KT : ∀ a : Ru, a.In → Hid (∀ B X, Ok B X → Calls Tryz.prog 33 #[V4 a] X fun x w' => x = .returned (.bool true) ∧ Ok B w'))
    (KO : ∀ a : Ru, ∀ k lo hi : Int, a.In → I64 k → I64 lo → I64 hi → Hid (∀ B X, Ok B X → Calls Tryz.prog 4 #[V4 a, .int .i64 k, .agg #[.int .i64 lo, .int .i64 hi]] X fun x w' => x = .returned (.bool true) ∧ Ok B w'))
    (KA : Hid (∀ (s : ByteArray) B X, s.size ≤ 100 → Ok B X → Calls Tryz.prog 5 #[.string s] X fun x w' => x = .returned (.bool true) ∧ Ok B w'))
    (KL : Hid (∀ B X, Ok B X → Calls Tryz.prog 23 #[] X fun x w' => x = .returned (.bool true) ∧ Ok B w')) :
    Calls Tryz.prog 6 #[] W fun e w' => e = .returned (.bool true) ∧ Ok w w' := by
  go_enter Tryz.func6, Tryz.ntmps6
  have oo := ho
  clear ho
  have oc := Ok.refl oo.1
  go_upto_region 2 with fail
  obtain ⟨hea, zea, tea⟩ := end_new2 W (-1) 0 _ rfl
  generalize (W.alloc (Obj.cells #[Value.int IntKind.i8 (-1), Value.int IntKind.i64 0] 24)) = V1 at *
  have eea : w.heap.size ≤ W.heap.size := (oo.step oc.2).2.size
  have lea : W.heap.size < V1.heap.size := by omega
  have ocY := oc.step tea
  have oo' := oo.step ocY.2
  clear ocY oo oc
  have oo := oo'
  clear oo'
  have oc := Ok.refl oo.1
  have zz1 : V1.heap.size = W.heap.size + 1 := zea
  clear tea zea
  obtain ⟨heb, zeb, teb⟩ := end_new2 V1 1 0 _ rfl
  generalize (V1.alloc (Obj.cells #[Value.int IntKind.i8 1, Value.int IntKind.i64 0] 24)) = V2 at *
  have eeb : w.heap.size ≤ V1.heap.size := (oo.step oc.2).2.size
  have leb : V1.heap.size < V2.heap.size := by omega
  have ocY := oc.step teb
  have hea' := hea.below lea ocY.2
  have lea' := Nat.lt_of_lt_of_le lea ocY.2.size
  (try clear ea0 ea1)
  have oo' := oo.step ocY.2
  clear ocY oo oc hea lea
  have hea := hea'
  have lea := lea'
  clear hea' lea'
  have oo := oo'
  clear oo'
  have oc := Ok.refl oo.1
  rw [zz1] at heb leb eeb zeb
  have zz2 : V2.heap.size = W.heap.size + 1 + 1 := zeb
  clear zz1
  clear teb zeb
  obtain ⟨hec, zec, tec⟩ := end_new2 V2 0 (-9223372036854775808) _ rfl
  generalize (V2.alloc (Obj.cells #[Value.int IntKind.i8 0, Value.int IntKind.i64 (-9223372036854775808)] 24)) = V3 at *
  have eec : w.heap.size ≤ V2.heap.size := (oo.step oc.2).2.size
  have lec : V2.heap.size < V3.heap.size := by omega
  have ocY := oc.step tec
  have hea' := hea.below lea ocY.2
  have lea' := Nat.lt_of_lt_of_le lea ocY.2.size
  have heb' := heb.below leb ocY.2
  have leb' := Nat.lt_of_lt_of_le leb ocY.2.size
  (try clear ea0 ea1 eb0 eb1)
  have oo' := oo.step ocY.2
  clear ocY oo oc hea lea heb leb
  have hea := hea'
  have lea := lea'
  clear hea' lea'
  have heb := heb'
  have leb := leb'
  clear heb' leb'
  have oo := oo'
  clear oo'
  have oc := Ok.refl oo.1
  rw [zz2] at hec lec eec zec
  have zz3 : V3.heap.size = W.heap.size + 1 + 1 + 1 := zec
  clear zz2
  clear tec zec
  obtain ⟨hed, zed, ted⟩ := end_new2 V3 0 9223372036854775807 _ rfl
  generalize (V3.alloc (Obj.cells #[Value.int IntKind.i8 0, Value.int IntKind.i64 9223372036854775807] 24)) = V4 at *
  have eed : w.heap.size ≤ V3.heap.size := (oo.step oc.2).2.size
  have led : V3.heap.size < V4.heap.size := by omega
  have ocY := oc.step ted
  have hea' := hea.below lea ocY.2
  have lea' := Nat.lt_of_lt_of_le lea ocY.2.size
  have heb' := heb.below leb ocY.2
  have leb' := Nat.lt_of_lt_of_le leb ocY.2.size
  have hec' := hec.below lec ocY.2
  have lec' := Nat.lt_of_lt_of_le lec ocY.2.size
  (try clear ea0 ea1 eb0 eb1 ec0 ec1)
  have oo' := oo.step ocY.2
  clear ocY oo oc hea lea heb leb hec lec
  have hea := hea'
  have lea := lea'
  clear hea' lea'
  have heb := heb'
  have leb := leb'
  clear heb' leb'
  have hec := hec'
  have lec := lec'
  clear hec' lec'
  have oo := oo'
  clear oo'
  have oc := Ok.refl oo.1
  rw [zz3] at hed led eed zed
  have zz4 : V4.heap.size = W.heap.size + 1 + 1 + 1 + 1 := zed
  clear zz3
  clear ted zed
  (try clear zz4)
  generalize W.heap.size + 1 + 1 + 1 = ged at *
  generalize W.heap.size + 1 + 1 = gec at *
  generalize W.heap.size + 1 = geb at *
  generalize W.heap.size = gea at *
  obtain ⟨ea0, ea1⟩ := (id hea).duo
  obtain ⟨eb0, eb1⟩ := (id heb).duo
  obtain ⟨ec0, ec1⟩ := (id hec).duo
  obtain ⟨ed0, ed1⟩ := (id hed).duo
  go_upto_region 3 with fail
  have hX0 : BX (V4.alloc (Obj.cells #[Value.int IntKind.i8 (-1), Value.int IntKind.i64 0, Value.int IntKind.i8 0, Value.int IntKind.i64 (-9223372036854775808), Value.int IntKind.i8 0, Value.int IntKind.i64 (-9223372036854775807), Value.int IntKind.i8 0, Value.int IntKind.i64 (-1), Value.int IntKind.i8 0, Value.int IntKind.i64 0, Value.int IntKind.i8 0, Value.int IntKind.i64 9223372036854775806, Value.int IntKind.i8 0, Value.int IntKind.i64 9223372036854775807, Value.int IntKind.i8 1, Value.int IntKind.i64 0, Value.int IntKind.i8 3, Value.int IntKind.i64 0] 24)) V4.heap.size := heap_alloc_new _ _
  have lX : V4.heap.size < (V4.alloc (Obj.cells #[Value.int IntKind.i8 (-1), Value.int IntKind.i64 0, Value.int IntKind.i8 0, Value.int IntKind.i64 (-9223372036854775808), Value.int IntKind.i8 0, Value.int IntKind.i64 (-9223372036854775807), Value.int IntKind.i8 0, Value.int IntKind.i64 (-1), Value.int IntKind.i8 0, Value.int IntKind.i64 0, Value.int IntKind.i8 0, Value.int IntKind.i64 9223372036854775806, Value.int IntKind.i8 0, Value.int IntKind.i64 9223372036854775807, Value.int IntKind.i8 1, Value.int IntKind.i64 0, Value.int IntKind.i8 3, Value.int IntKind.i64 0] 24)).heap.size := by simp
  have oo' : Ok w (V4.alloc (Obj.cells #[Value.int IntKind.i8 (-1), Value.int IntKind.i64 0, Value.int IntKind.i8 0, Value.int IntKind.i64 (-9223372036854775808), Value.int IntKind.i8 0, Value.int IntKind.i64 (-9223372036854775807), Value.int IntKind.i8 0, Value.int IntKind.i64 (-1), Value.int IntKind.i8 0, Value.int IntKind.i64 0, Value.int IntKind.i8 0, Value.int IntKind.i64 9223372036854775806, Value.int IntKind.i8 0, Value.int IntKind.i64 9223372036854775807, Value.int IntKind.i8 1, Value.int IntKind.i64 0, Value.int IntKind.i8 3, Value.int IntKind.i64 0] 24)) := oo.step (by go_grown)
  clear oo oc hea lea eea heb leb eeb hec lec eec hed led eed ea0 ea1 eb0 eb1 ec0 ec1 ed0 ed1
  generalize (V4.alloc (Obj.cells #[Value.int IntKind.i8 (-1), Value.int IntKind.i64 0, Value.int IntKind.i8 0, Value.int IntKind.i64 (-9223372036854775808), Value.int IntKind.i8 0, Value.int IntKind.i64 (-9223372036854775807), Value.int IntKind.i8 0, Value.int IntKind.i64 (-1), Value.int IntKind.i8 0, Value.int IntKind.i64 0, Value.int IntKind.i8 0, Value.int IntKind.i64 9223372036854775806, Value.int IntKind.i8 0, Value.int IntKind.i64 9223372036854775807, Value.int IntKind.i8 1, Value.int IntKind.i64 0, Value.int IntKind.i8 3, Value.int IntKind.i64 0] 24)) = VX at *
  generalize V4.heap.size = gx at *
  have oo := oo'
  clear oo'
  go_upto_region 5 with fail
  go_loopw [6, 7, 8] (fun v6 v7 v8 wr => ∃ (i : Int) (n : Nat) (xs : List Value) (k : Value), 0 ≤ i ∧ i ≤ 9 ∧ (n : Int) = 9 * i ∧ v7 = .int .i64 i ∧ v8 = k ∧ RX xs n ∧ wr.ownsRow VX.heap.size 26 4 v6 n xs ∧ Ok VX wr) (fun _ v7 _ _ => (9 - intOf v7).toNat)
  case atStart => exact ⟨0, 0, [], _, by omega, by omega, by omega, rfl, rfl, RX.nil, World.ownsRow_nil _ _ _ _, Ok.refl oo.1⟩
  case round =>
    obtain ⟨i, n, xs, k0, h0, h9, hn, rfl, rfl, hx, hown, oc⟩ := hrel
    by_cases hi : i < 9
    · go_upto_region 8 with fail
      go_loopw [6, 8] (fun v6 v8 wr => ∃ (k : Int) (n : Nat) (xs : List Value), 0 ≤ k ∧ k ≤ 9 ∧ (n : Int) = 9 * i + k ∧ v8 = .int .i64 k ∧ RX xs n ∧ wr.ownsRow VX.heap.size 26 4 v6 n xs ∧ Ok VX wr) (fun _ v8 _ => (9 - intOf v8).toNat)
      case atStart => exact ⟨0, n, xs, by omega, by omega, by omega, rfl, hx, hown, oc⟩
      case round =>
        clear hx hown oc hn
        obtain ⟨k, n, xs, k0, k9, hn, rfl, hx, hown, oc⟩ := hrel
        by_cases hk : k < 9
        · obtain ⟨p, a, hp, ha, a0, a1⟩ := hX0.at_ i h0 hi
          obtain ⟨r, b, hr, hb, b0, b1⟩ := hX0.at_ k k0 hk
          have HF := Lib.hid (fun X (h : Ok VX X) => And.intro ((h.2.cell (p := ⟨gx, _, none⟩) lX).trans a0) (And.intro ((h.2.cell (p := ⟨gx, _, none⟩) lX).trans a1) (And.intro ((h.2.cell (p := ⟨gx, _, none⟩) lX).trans b0) ((h.2.cell (p := ⟨gx, _, none⟩) lX).trans b1))))
          clear a0 a1 b0 b1
          go_upto_region 10 with fail
          refine wp_region_G (S := (Ok VX)) (by kernel_rfl) growsB (oc.step (by go_grown)) ?_
          refine tG (i := 0) (o := ?or10n0) (v := ?vr10n0) growsB ?ir10n0 (by kernel_rfl) ?qr10n0 ?yr10n0 ?rr10n0
          case ir10n0 => (simp only [gA, gZ]; rfl)
          case qr10n0 => exact fun _ _ _ h => h
          case yr10n0 => exact .inl ⟨by rfl, by (intro w _; go_simp; try with_reducible rfl)⟩
          (try simp only [Act.put, pA, pZ, pS])
          refine tG (i := 1) (o := ?or10n1) (v := ?vr10n1) growsB ?ir10n1 (by kernel_rfl) ?qr10n1 ?yr10n1 ?rr10n1
          case ir10n1 => (simp only [gA, gS, gZ]; rfl)
          case qr10n1 => exact fun _ _ _ h => h
          case yr10n1 => exact .inl ⟨by rfl, by (intro w _; go_simp; try with_reducible rfl)⟩
          (try simp only [Act.put, pA, pZ, pS])
          refine tG (i := 2) (o := ?or10n2) (v := ?vr10n2) growsB ?ir10n2 (by kernel_rfl) ?qr10n2 ?yr10n2 ?rr10n2
          case ir10n2 => (simp only [gA, gS, gZ]; rfl)
          case qr10n2 => exact fun _ _ _ h => h
          case yr10n2 => exact .inl ⟨by rfl, by (intro w _; go_simp; try with_reducible rfl)⟩
          (try simp only [Act.put, pA, pZ, pS])
          refine tG (i := 3) (o := ?or10n3) (v := ?vr10n3) growsB ?ir10n3 (by kernel_rfl) ?qr10n3 ?yr10n3 ?rr10n3
          case ir10n3 => (simp only [gA, gS, gZ]; rfl)
          case qr10n3 => exact fun _ _ _ h => h
          case yr10n3 => exact .inl ⟨by rfl, by (intro w _; go_simp; try with_reducible rfl)⟩
          (try simp only [Act.put, pA, pZ, pS])
          refine tG (i := 4) (o := ?or10n4) (v := ?vr10n4) growsB ?ir10n4 (by kernel_rfl) ?qr10n4 ?yr10n4 ?rr10n4
          case ir10n4 => (simp only [gA, gS, gZ]; rfl)
          case qr10n4 => exact fun _ _ _ h => h
          case yr10n4 => exact .inl ⟨by rfl, by (intro w hSw; obtain ⟨a0, a1, b0, b1⟩ := HF.out w hSw; go_simp; try with_reducible rfl)⟩
          (try simp only [Act.put, pA, pZ, pS])
          refine tG (i := 5) (o := ?or10n5) (v := ?vr10n5) growsB ?ir10n5 (by kernel_rfl) ?qr10n5 ?yr10n5 ?rr10n5
          case ir10n5 => (simp only [gA, gS, gZ]; rfl)
          case qr10n5 => exact fun _ _ _ h => h
          case yr10n5 => exact .inl ⟨by rfl, by (intro w _; go_simp; try with_reducible rfl)⟩
          (try simp only [Act.put, pA, pZ, pS])
          refine tG (i := 6) (o := ?or10n6) (v := ?vr10n6) growsB ?ir10n6 (by kernel_rfl) ?qr10n6 ?yr10n6 ?rr10n6
          case ir10n6 => (simp only [gA, gS, gZ]; rfl)
          case qr10n6 => exact fun _ _ _ h => h
          case yr10n6 => exact .inl ⟨by rfl, by (intro w _; go_simp; try with_reducible rfl)⟩
          (try simp only [Act.put, pA, pZ, pS])
          refine tG (i := 7) (o := ?or10n7) (v := ?vr10n7) growsB ?ir10n7 (by kernel_rfl) ?qr10n7 ?yr10n7 ?rr10n7
          case ir10n7 => (simp only [gA, gS, gZ]; rfl)
          case qr10n7 => exact fun _ _ _ h => h
          case yr10n7 => exact .inl ⟨by rfl, by (intro w _; go_simp; try with_reducible rfl)⟩
          (try simp only [Act.put, pA, pZ, pS])
          refine tG (i := 8) (o := ?or10n8) (v := ?vr10n8) growsB ?ir10n8 (by kernel_rfl) ?qr10n8 ?yr10n8 ?rr10n8
          case ir10n8 => (simp only [gA, gS, gZ]; rfl)
          case qr10n8 => exact fun _ _ _ h => h
          case yr10n8 => exact .inl ⟨by rfl, by (intro w hSw; obtain ⟨a0, a1, b0, b1⟩ := HF.out w hSw; go_simp; try with_reducible rfl)⟩
          (try simp only [Act.put, pA, pZ, pS])
          refine tG (i := 9) (o := ?or10n9) (v := ?vr10n9) growsB ?ir10n9 (by kernel_rfl) ?qr10n9 ?yr10n9 ?rr10n9
          case ir10n9 => (simp only [gA, gS, gZ]; rfl)
          case qr10n9 => exact fun _ _ _ h => h
          case yr10n9 => exact .inl ⟨by rfl, by (intro w _; go_simp; try with_reducible rfl)⟩
          (try simp only [Act.put, pA, pZ, pS])
          refine wpAnyG_ready (rs := [10]) (by kernel_rfl) (by simp) ?_
          (try clear hX)
          intro w9 hX hT
          refine AllReadyG.cons (o := ?oir10n10) ?hor10n10 ?hKr10n10 AllReadyG.nil
          case hor10n10 => (simp only [List.getElem?_toArray, List.getElem?_cons_succ, List.getElem?_cons_zero]; rfl)
          intro KK hKK
          have ow9 := own_below hown (show Below wr.heap.size wr w9 from (show Below wr.heap.size wr wr.drew from by go_grown).trans hT)
          have ow3 := ow9.alloc (Obj.cells #[Value.int IntKind.i8 p, Value.int IntKind.i64 a, Value.int IntKind.i8 r, Value.int IntKind.i64 b] 26)
          have hX3 := hX.step (show Below w9.heap.size w9 (w9.alloc (Obj.cells #[Value.int IntKind.i8 p, Value.int IntKind.i64 a, Value.int IntKind.i8 r, Value.int IntKind.i64 b] 26)) from by go_grown)
          have hN : (w9.alloc (Obj.cells #[Value.int IntKind.i8 p, Value.int IntKind.i64 a, Value.int IntKind.i8 r, Value.int IntKind.i64 b] 26)).heap[w9.heap.size]? = some (.cells #[.int .i8 p, .int .i64 a, .int .i8 r, .int .i64 b] 26 (0, 0)) := heap_alloc_new _ _
          have lN : w9.heap.size < (w9.alloc (Obj.cells #[Value.int IntKind.i8 p, Value.int IntKind.i64 a, Value.int IntKind.i8 r, Value.int IntKind.i64 b] 26)).heap.size := by simp
          go_simp
          refine hKK.out _ _ hX3 (fun _ => ?_)
          clear hX hT ow9 hX3
          generalize (w9.alloc (Obj.cells #[Value.int IntKind.i8 p, Value.int IntKind.i64 a, Value.int IntKind.i8 r, Value.int IntKind.i64 b] 26)) = V3 at *
          generalize w9.heap.size = gs at *
          clear hKK KK
          (try simp only [Act.put, List.setIfInBounds_toArray, List.set_cons_zero, List.set_cons_succ])
          refine wpAnyG_ready (rs := [11]) (by kernel_rfl) (by simp) ?_
          (try clear hX)
          intro w9 hX hT
          refine AllReadyG.cons (o := ?oir10n11) ?hor10n11 ?hKr10n11 AllReadyG.nil
          case hor10n11 => (simp only [List.getElem?_toArray, List.getElem?_cons_succ, List.getElem?_cons_zero]; rfl)
          intro KK hKK
          have ow4 := own_below ow3 hT
          have hN2 := (hT.block gs lN).trans hN
          obtain ⟨i0, hi0, hz0, hs0⟩ := info_run
          refine step_append_lies _ rfl (.tmp 37) (.tmp 47) 56 rfl VX.heap.size 26 i0 _ 4 i0.bytes Tryz.underlying56 hi0 hz0 hs0 rfl rfl (by decide) u6 n xs (by simp [Act.eval]) ow4 ⟨gs, 0, none⟩ 1 1 [.int .i8 p, .int .i64 a, .int .i8 r, .int .i64 b] (by simp [Act.eval]) rfl (news4 hN2) (by intro u hu; simp only [List.mem_cons, List.not_mem_nil, or_false] at hu; rcases hu with rfl | rfl | rfl | rfl <;> rfl) (by omega) (by unfold maxLen; omega) (by rw [run_bytes hi0]; omega) hX.2.size _ rfl ?_
          intro gg cc w1 hown1 hg1 _ _
          have hX4 : Ok VX w1 := hX.low' ((hX.2).grown hg1 hX.2.size (fun k hk => (ow4.lt k hk).1))
          refine hKK.out _ _ hX4 (fun _ => ?_)
          clear hX hT hX4 ow3 ow4 hN hN2 lN hg1
          clear hKK KK
          (try simp only [Act.put, List.setIfInBounds_toArray, List.set_cons_zero, List.set_cons_succ])
          refine tG (i := 12) (o := ?or10n12) (v := ?vr10n12) growsB ?ir10n12 (by kernel_rfl) ?qr10n12 ?yr10n12 ?rr10n12
          case ir10n12 => (simp only [gA, gS, gZ]; rfl)
          case qr10n12 => exact fun _ _ _ h => h
          case yr10n12 => exact .inl ⟨by rfl, by (intro w _; go_simp; try with_reducible rfl)⟩
          (try simp only [Act.put, pA, pZ, pS])
          refine wpAnyG_done (by kernel_rfl) ?_ _
          (try clear hX)
          intro w10 hX hT
          have hown2 := own_below hown1 hT
          go_wp2_with fail
          go_roundw
          case rel => exact ⟨k + 1, n + 1, _, by omega, by omega, by omega, by go_num, hx.snoc p a r b hp ha hr hb, hown2, hX⟩
          case measure => simp [intOf]; omega
        · skip
          obtain rfl : k = 9 := by omega
          go_wp2_with fail
          go_roundw
          case rel => exact ⟨i + 1, n, xs, _, by omega, by omega, by omega, by go_num, rfl, hx, hown, oc⟩
          case measure => simp [intOf]; omega
    · skip
      obtain rfl : i = 9 := by omega
      obtain rfl : n = 81 := by omega
      obtain ⟨g, cap, rfl, hg, hlt⟩ := hown.form (by omega)
      have hL := LX.of hown hx
      have ow := oo.step oc.2
      obtain ⟨WL, hWL⟩ : ∃ X : World, X = wr := ⟨wr, rfl⟩
      subst hWL
      clear hown hx oc oo hX0 lX hn h0 h9 hi hg
      go_upto_region 12 with fail
      go_loopw [9, 10] (fun v9 v10 wq => ∃ (i : Int) (k : Value), 0 ≤ i ∧ i ≤ 81 ∧ v9 = .int .i64 i ∧ v10 = k ∧ Ok WL wq) (fun v9 _ _ => (81 - intOf v9).toNat)
      case atStart => exact ⟨0, _, by omega, by omega, rfl, rfl, Ok.refl ow.1⟩
      case round =>
        obtain ⟨i, k0, h0, h9, rfl, rfl, oq⟩ := hrel
        by_cases hi : i < 81
        · obtain ⟨⟨i1, d1, j1, e1⟩, hu, a0, a1, a2, a3⟩ := hL i h0 hi
          dsimp only at a0 a1 a2 a3
          have HA := Lib.hid (fun X (h : Ok WL X) => And.intro ((h.2.cell (p := ⟨g, _, none⟩) hlt).trans a0) (And.intro ((h.2.cell (p := ⟨g, _, none⟩) hlt).trans a1) (And.intro ((h.2.cell (p := ⟨g, _, none⟩) hlt).trans a2) ((h.2.cell (p := ⟨g, _, none⟩) hlt).trans a3))))
          clear a0 a1 a2 a3
          go_upto_region 15 with fail
          go_loopw [10] (fun v10 wq => ∃ k : Int, 0 ≤ k ∧ k ≤ 81 ∧ v10 = .int .i64 k ∧ Ok WL wq) (fun v10 _ => (81 - intOf v10).toNat)
          case atStart => exact ⟨0, by omega, by omega, rfl, oq⟩
          case round =>
            clear oq
            obtain ⟨k, k0, k9, rfl, oq⟩ := hrel
            by_cases hk : k < 81
            · obtain ⟨⟨i2, d2, j2, e2⟩, hv, b0, b1, b2, b3⟩ := hL k k0 hk
              dsimp only at b0 b1 b2 b3
              have HB := Lib.hid (fun X (h : Ok WL X) => And.intro ((h.2.cell (p := ⟨g, _, none⟩) hlt).trans b0) (And.intro ((h.2.cell (p := ⟨g, _, none⟩) hlt).trans b1) (And.intro ((h.2.cell (p := ⟨g, _, none⟩) hlt).trans b2) ((h.2.cell (p := ⟨g, _, none⟩) hlt).trans b3))))
              clear b0 b1 b2 b3
              have hwr : IntKind.i64.wrap (i - k) = i - k := IntWalk.i64_in _ (by omega)
              have KPi := KP ⟨i1, d1, j1, e1⟩ ⟨i2, d2, j2, e2⟩ (i - k) hu hv (by unfold I64; omega)
              go_upto_region 17 with fail
              refine wp_region_G (S := (Ok WL)) (by kernel_rfl) growsB (oq.step (by go_grown)) ?_
              refine tG (i := 0) (o := ?or17n0) (v := ?vr17n0) growsB ?ir17n0 (by kernel_rfl) ?qr17n0 ?yr17n0 ?rr17n0
              case ir17n0 => (simp only [gA, gZ]; rfl)
              case qr17n0 => exact fun _ _ _ h => h
              case yr17n0 => exact .inl ⟨by rfl, by (intro w _; go_simp; try with_reducible rfl)⟩
              (try simp only [Act.put, pA, pZ, pS])
              refine tG (i := 1) (o := ?or17n1) (v := ?vr17n1) growsB ?ir17n1 (by kernel_rfl) ?qr17n1 ?yr17n1 ?rr17n1
              case ir17n1 => (simp only [gA, gS, gZ]; rfl)
              case qr17n1 => exact fun _ _ _ h => h
              case yr17n1 => exact .inl ⟨by rfl, by (intro w _; go_simp; try with_reducible rfl)⟩
              (try simp only [Act.put, pA, pZ, pS])
              refine tG (i := 2) (o := ?or17n2) (v := ?vr17n2) growsB ?ir17n2 (by kernel_rfl) ?qr17n2 ?yr17n2 ?rr17n2
              case ir17n2 => (simp only [gA, gS, gZ]; rfl)
              case qr17n2 => exact fun _ _ _ h => h
              case yr17n2 => exact .inl ⟨by rfl, by (intro w _; go_simp; try with_reducible rfl)⟩
              (try simp only [Act.put, pA, pZ, pS])
              refine tG (i := 3) (o := ?or17n3) (v := ?vr17n3) growsB ?ir17n3 (by kernel_rfl) ?qr17n3 ?yr17n3 ?rr17n3
              case ir17n3 => (simp only [gA, gS, gZ]; rfl)
              case qr17n3 => exact fun _ _ _ h => h
              case yr17n3 => exact .inl ⟨by rfl, by (intro w hSw; obtain ⟨a0, a1, a2, a3⟩ := HA.out w hSw; obtain ⟨b0, b1, b2, b3⟩ := HB.out w hSw; go_simp; try with_reducible rfl)⟩
              (try simp only [Act.put, pA, pZ, pS])
              refine tG (i := 4) (o := ?or17n4) (v := ?vr17n4) growsB ?ir17n4 (by kernel_rfl) ?qr17n4 ?yr17n4 ?rr17n4
              case ir17n4 => (simp only [gA, gS, gZ]; rfl)
              case qr17n4 => exact fun _ _ _ h => h
              case yr17n4 => exact .inl ⟨by rfl, by (intro w _; go_simp; try with_reducible rfl)⟩
              (try simp only [Act.put, pA, pZ, pS])
              refine tG (i := 5) (o := ?or17n5) (v := ?vr17n5) growsB ?ir17n5 (by kernel_rfl) ?qr17n5 ?yr17n5 ?rr17n5
              case ir17n5 => (simp only [gA, gS, gZ]; rfl)
              case qr17n5 => exact fun _ _ _ h => h
              case yr17n5 => exact .inl ⟨by rfl, by (intro w _; go_simp; try with_reducible rfl)⟩
              (try simp only [Act.put, pA, pZ, pS])
              refine tG (i := 6) (o := ?or17n6) (v := ?vr17n6) growsB ?ir17n6 (by kernel_rfl) ?qr17n6 ?yr17n6 ?rr17n6
              case ir17n6 => (simp only [gA, gS, gZ]; rfl)
              case qr17n6 => exact fun _ _ _ h => h
              case yr17n6 => exact .inl ⟨by rfl, by (intro w _; go_simp; try with_reducible rfl)⟩
              (try simp only [Act.put, pA, pZ, pS])
              refine tG (i := 7) (o := ?or17n7) (v := ?vr17n7) growsB ?ir17n7 (by kernel_rfl) ?qr17n7 ?yr17n7 ?rr17n7
              case ir17n7 => (simp only [gA, gS, gZ]; rfl)
              case qr17n7 => exact fun _ _ _ h => h
              case yr17n7 => exact .inl ⟨by rfl, by (intro w hSw; obtain ⟨a0, a1, a2, a3⟩ := HA.out w hSw; obtain ⟨b0, b1, b2, b3⟩ := HB.out w hSw; go_simp; try with_reducible rfl)⟩
              (try simp only [Act.put, pA, pZ, pS])
              refine tG (i := 8) (o := ?or17n8) (v := ?vr17n8) growsB ?ir17n8 (by kernel_rfl) ?qr17n8 ?yr17n8 ?rr17n8
              case ir17n8 => (simp only [gA, gS, gZ]; rfl)
              case qr17n8 => exact fun _ _ _ h => h
              case yr17n8 => exact .inl ⟨by rfl, by (intro w _; go_simp; try with_reducible rfl)⟩
              (try simp only [Act.put, pA, pZ, pS])
              refine tG (i := 9) (o := ?or17n9) (v := ?vr17n9) growsB ?ir17n9 (by kernel_rfl) ?qr17n9 ?yr17n9 ?rr17n9
              case ir17n9 => (simp only [gA, gS, gZ]; rfl)
              case qr17n9 => exact fun _ _ _ h => h
              case yr17n9 => exact .inl ⟨by rfl, by (intro w _; go_simp; try with_reducible rfl)⟩
              (try simp only [Act.put, pA, pZ, pS])
              refine tG (i := 10) (o := ?or17n10) (v := ?vr17n10) growsB ?ir17n10 (by kernel_rfl) ?qr17n10 ?yr17n10 ?rr17n10
              case ir17n10 => (simp only [gA, gS, gZ]; rfl)
              case qr17n10 => exact fun _ _ _ h => h
              case yr17n10 => exact .inl ⟨by rfl, by (intro w _; go_simp; try with_reducible rfl)⟩
              (try simp only [Act.put, pA, pZ, pS])
              refine cG (i := 11) (o := ?or17n11) growsB ?ir17n11 (by kernel_rfl) ?qr17n11 ?wr17n11 ?er17n11 (fun X hX => callO KPi.out hX) ?rr17n11
              case ir17n11 => (simp only [gA, gS, gZ]; rfl)
              case qr17n11 => exact fun _ _ _ h => h
              case wr17n11 => rfl
              case er17n11 => (intro w; go_simp; try with_reducible rfl)
              (try simp only [Act.put, pA, pZ, pS])
              refine tG (i := 12) (o := ?or17n12) (v := ?vr17n12) growsB ?ir17n12 (by kernel_rfl) ?qr17n12 ?yr17n12 ?rr17n12
              case ir17n12 => (simp only [gA, gS, gZ]; rfl)
              case qr17n12 => exact fun _ _ _ h => h
              case yr17n12 => exact .inl ⟨by rfl, by (intro w _; go_simp; try with_reducible rfl)⟩
              (try simp only [Act.put, pA, pZ, pS])
              refine wpAnyG_done (by kernel_rfl) ?_ _
              (try clear hX)
              intro w9 hX hT
              clear KPi HB
              go_wp2_with fail
              go_roundw
              case rel => exact ⟨k + 1, by omega, by omega, by go_num, hX⟩
              case measure => simp [intOf]; omega
            · skip
              obtain rfl : k = 81 := by omega
              have K1 := KT ⟨i1, d1, j1, e1⟩ hu
              have K2 := KO ⟨i1, d1, j1, e1⟩ 1 i 40 hu (by unfold I64; omega) (by unfold I64; omega) (by unfold I64; omega)
              have K3 := KO ⟨i1, d1, j1, e1⟩ (-9223372036854775808) 40 i hu (by unfold I64; omega) (by unfold I64; omega) (by unfold I64; omega)
              obtain ⟨c0, c1, c2, c3⟩ := HA.out _ oq
              go_wp2_with (first
                | (go_at_call 33; ((with_reducible refine (K1.out _ _ (oq.step (by go_grown))).mono ?_); rintro z1 w2 ⟨rfl, hq⟩; (try clear oq c0 c1 c2 c3); have oq := hq; clear hq; obtain ⟨c0, c1, c2, c3⟩ := HA.out _ oq))
                | (go_at_call 4; ((with_reducible refine (K2.out _ _ (oq.step (by go_grown))).mono ?_); rintro z1 w2 ⟨rfl, hq⟩; (try clear oq c0 c1 c2 c3); have oq := hq; clear hq; obtain ⟨c0, c1, c2, c3⟩ := HA.out _ oq))
                | (go_at_call 4; ((with_reducible refine (K3.out _ _ (oq.step (by go_grown))).mono ?_); rintro z1 w2 ⟨rfl, hq⟩; (try clear oq c0 c1 c2 c3); have oq := hq; clear hq; obtain ⟨c0, c1, c2, c3⟩ := HA.out _ oq)))
              go_roundw
              case rel => exact ⟨i + 1, _, by omega, by omega, by go_num, rfl, oq⟩
              case measure => simp [intOf]; omega
        · skip
          obtain rfl : i = 81 := by omega
          clear hL KP KT KO
          go_wp2_with (first
            | (go_at_call 5; ((with_reducible refine (KA.out _ _ _ (by decide) (oq.step (by go_grown))).mono ?_); rintro z1 w2 ⟨rfl, hq⟩; clear oq; have oq := hq; clear hq))
            | (go_at_call 23; ((with_reducible refine (KL.out _ _ (oq.step (by go_grown))).mono ?_); rintro z1 w2 ⟨rfl, hq⟩; clear oq; have oq := hq; clear hq)))
          go_ret
          exact ⟨rfl, ow.step oq.2⟩
end Go.Proofs.YtmbaohjekeiphaaGreatDoor.run9
