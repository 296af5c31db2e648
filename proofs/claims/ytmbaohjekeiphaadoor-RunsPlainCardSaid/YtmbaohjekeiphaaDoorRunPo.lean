/- The law's own runs as plain data: what Of makes of them. -/
import Derived.Test.YtmbaohjekeiphaaDoorRunL
import Derived.Test.YtmbaohjekeiphaaDoorRunPp
namespace Go.Proofs.YtmbaohjekeiphaaDoor.run9
open Go.RowKit

/-- A run as plain data in a block. -/
def RB (X : World) (g : Nat) (a b c : Int) : Prop := X.heap[g]? = some (.cells #[.int .u8 a, .int .u8 b, .int .i16 c] 24 (0, 0)) ∧ g < X.heap.size
theorem RB.below {X Y : World} {g : Nat} {a b c : Int} (h : RB X g a b c) (hb : Below X.heap.size X Y) : RB Y g a b c := ⟨(hb.block g h.2).trans h.1, Nat.lt_of_lt_of_le h.2 hb.size⟩
theorem RB.cells {X : World} {g : Nat} {a b c : Int} (h : RB X g a b c) : X.cell? ⟨g, 0, none⟩ = some (.int .u8 a) ∧ X.cell? ⟨g, 1, none⟩ = some (.int .u8 b) ∧ X.cell? ⟨g, 2, none⟩ = some (.int .i16 c) := ⟨cell_of_row X g 0 _ _ _ h.1, cell_of_row X g 1 _ _ _ h.1, cell_of_row X g 2 _ _ _ h.1⟩
theorem RB.frozen {X : World} {g : Nat} {a b c : Int} (h : RB X g a b c) (n : Nat) : X.frozen? ⟨g, n, none⟩ = false := frozen_of_row X g n _ _ h.1
theorem RB.new (X : World) (a b c : Int) (Y : World) (hY : Y = X.alloc (.cells #[.int .u8 a, .int .u8 b, .int .i16 c] 24)) : RB Y X.heap.size a b c ∧ Y.heap.size = X.heap.size + 1 ∧ Below X.heap.size X Y := by
  subst hY
  exact ⟨⟨heap_alloc_new X _, by simp⟩, by simp, by go_grown⟩
theorem RB.lo {X : World} {g : Nat} {a b c : Int} (h : RB X g a b c) (c' : Int) : RB (X.setCell ⟨g, 2, none⟩ (.int .i16 c')) g a b c' := ⟨heap_setCell_same X g 2 _ _ _ h.1, by have := h.2; simpa using this⟩
/-- What Of makes: by the kind modulo 8, the length modulo 16. -/
def rOf (m n lo : Int) : Ru := ⟨if m = 0 ∨ m = 2 then -1 else 0, if m = 0 ∨ m = 2 then 0 else lo, if m = 1 ∨ m = 2 then 1 else 0, if m = 1 ∨ m = 2 then 0 else lo + n⟩
theorem rOf_small {m n lo : Int} (h1 : -39 ≤ lo) (h2 : lo ≤ 39) (h3 : 0 ≤ n) (h4 : n ≤ 15) : Small (rOf m n lo) := by
  unfold rOf
  refine ⟨?_, ?_, ?_⟩ <;> dsimp only
  · split <;> omega
  · split <;> omega
  · split <;> split <;> omega

theorem _root_.Go.Proofs.YtmbaohjekeiphaaDoor.BkU.other {w : World} {g g' k : Nat} {u : Value} {i d j e : Int} (h : BkU w g i d j e) (hn : g ≠ g') : BkU (w.setCell ⟨g', k, none⟩ u) g i d j e := (heap_setCell_other w _ g u hn).trans h
set_option maxRecDepth 100000 in
set_option maxHeartbeats 8000000 in
theorem of_any9 (a b lo m n r : Int) (w : World) (e1 : a % 8 = m) (e2 : a.tmod 8 = m) (e4 : b.tmod 16 = n) (e5 : lo + n = r) (w1 : IntKind.i64.wrap lo = lo) (w2 : IntKind.i64.wrap n = n) (w3 : wrap64 r = r) (w4 : IntKind.u8.wrap m = m) :
    Calls Tryd.prog 5 #[.agg #[.int .u8 a, .int .u8 b, .int .i16 lo]] w fun x w' => x = .returned (V4 (rOf m n lo)) ∧ Below w.heap.size w w' := by
  unfold rOf
  by_cases q0 : m = 0
  · subst q0
    go_enter Tryd.func5, Tryd.ntmps5
    go_upto_region 1 with fail
    obtain ⟨hR, s1, hb⟩ := RB.new w a b lo _ rfl
    obtain ⟨hZ, s2, hb2⟩ := run_new (w.alloc (Obj.cells #[Value.int IntKind.u8 a, Value.int IntKind.u8 b, Value.int IntKind.i16 lo] 24)) 0 0 0 0 _ rfl
    rw [s1] at hZ s2
    have hB := hb.trans (hb2.mono (by omega))
    have hR2 := hR.below hb2
    generalize ((w.alloc (Obj.cells #[Value.int IntKind.u8 a, Value.int IntKind.u8 b, Value.int IntKind.i16 lo] 24)).alloc (Obj.cells #[Value.int IntKind.i8 0, Value.int IntKind.i64 0, Value.int IntKind.i8 0, Value.int IntKind.i64 0] 29)) = W1 at *
    have hlt : w.heap.size + 1 < W1.heap.size := by omega
    clear hR hb hb2 s1 s2
    obtain ⟨f0, f1, f2⟩ := hR2.cells
    go_upto_region 2 with fail
    obtain ⟨hM, s3, hb3⟩ := run_new W1 0 lo 0 r _ rfl
    have hR3 := hR2.below hb3
    have hZ3 := hZ.below hlt hb3
    have hB3 := hB.trans (hb3.mono (by omega))
    generalize (W1.alloc (Obj.cells #[Value.int IntKind.i8 0, Value.int IntKind.i64 lo, Value.int IntKind.i8 0, Value.int IntKind.i64 r] 29)) = W3 at *
    have hg : w.heap.size + 1 < W1.heap.size := hlt
    clear hR2 hZ hB hb3 s3 hlt f0 f1 f2
    generalize W1.heap.size = g at *
    obtain ⟨f0, f1, f2⟩ := hR3.cells
    obtain ⟨m0, m1, m2, m3⟩ := hM.quad
    have y0 := hM.frozen 0
    have y1 := hM.frozen 1
    have y2 := hM.frozen 2
    have y3 := hM.frozen 3
    obtain ⟨z0, z1, z2, z3⟩ := hZ3.quad
    have x0 := hZ3.frozen 0
    have x1 := hZ3.frozen 1
    have x2 := hZ3.frozen 2
    have x3 := hZ3.frozen 3
    have hne : ¬ g = w.heap.size + 1 := by omega
    have hne2 : ¬ w.heap.size + 1 = g := by omega
    have hne3 : ¬ g = w.heap.size := by omega
    have hne4 : ¬ w.heap.size = g := by omega
    go_wp2_with fail
    exact bodyPost_ret (res_run1 rfl rfl (((hZ3.other (g' := g) (k := 0) (u := .int .i8 (-1)) (by omega)).other (g' := g) (k := 1) (u := .int .i64 0) (by omega)).store (-1) 0 0 r).quad) rfl ⟨rfl, set4_below (set2_below hB3 (g := g) (by omega) (-1) 0) (by omega) (-1) 0 0 r⟩
  · by_cases q1 : m = 1
    · subst q1
      go_enter Tryd.func5, Tryd.ntmps5
      go_upto_region 1 with fail
      obtain ⟨hR, s1, hb⟩ := RB.new w a b lo _ rfl
      obtain ⟨hZ, s2, hb2⟩ := run_new (w.alloc (Obj.cells #[Value.int IntKind.u8 a, Value.int IntKind.u8 b, Value.int IntKind.i16 lo] 24)) 0 0 0 0 _ rfl
      rw [s1] at hZ s2
      have hB := hb.trans (hb2.mono (by omega))
      have hR2 := hR.below hb2
      generalize ((w.alloc (Obj.cells #[Value.int IntKind.u8 a, Value.int IntKind.u8 b, Value.int IntKind.i16 lo] 24)).alloc (Obj.cells #[Value.int IntKind.i8 0, Value.int IntKind.i64 0, Value.int IntKind.i8 0, Value.int IntKind.i64 0] 29)) = W1 at *
      have hlt : w.heap.size + 1 < W1.heap.size := by omega
      clear hR hb hb2 s1 s2
      obtain ⟨f0, f1, f2⟩ := hR2.cells
      go_upto_region 2 with fail
      obtain ⟨hM, s3, hb3⟩ := run_new W1 0 lo 0 r _ rfl
      have hR3 := hR2.below hb3
      have hZ3 := hZ.below hlt hb3
      have hB3 := hB.trans (hb3.mono (by omega))
      generalize (W1.alloc (Obj.cells #[Value.int IntKind.i8 0, Value.int IntKind.i64 lo, Value.int IntKind.i8 0, Value.int IntKind.i64 r] 29)) = W3 at *
      have hg : w.heap.size + 1 < W1.heap.size := hlt
      clear hR2 hZ hB hb3 s3 hlt f0 f1 f2
      generalize W1.heap.size = g at *
      obtain ⟨f0, f1, f2⟩ := hR3.cells
      obtain ⟨m0, m1, m2, m3⟩ := hM.quad
      have y0 := hM.frozen 0
      have y1 := hM.frozen 1
      have y2 := hM.frozen 2
      have y3 := hM.frozen 3
      obtain ⟨z0, z1, z2, z3⟩ := hZ3.quad
      have x0 := hZ3.frozen 0
      have x1 := hZ3.frozen 1
      have x2 := hZ3.frozen 2
      have x3 := hZ3.frozen 3
      have hne : ¬ g = w.heap.size + 1 := by omega
      have hne2 : ¬ w.heap.size + 1 = g := by omega
      have hne3 : ¬ g = w.heap.size := by omega
      have hne4 : ¬ w.heap.size = g := by omega
      go_wp2_with fail
      exact bodyPost_ret (res_run1 rfl rfl (((hZ3.other (g' := g) (k := 2) (u := .int .i8 1) (by omega)).other (g' := g) (k := 3) (u := .int .i64 0) (by omega)).store 0 lo 1 0).quad) rfl ⟨rfl, set4_below (setH_below hB3 (g := g) (by omega) 1 0) (by omega) 0 lo 1 0⟩
    · by_cases q2 : m = 2
      · subst q2
        go_enter Tryd.func5, Tryd.ntmps5
        go_upto_region 1 with fail
        obtain ⟨hR, s1, hb⟩ := RB.new w a b lo _ rfl
        obtain ⟨hZ, s2, hb2⟩ := run_new (w.alloc (Obj.cells #[Value.int IntKind.u8 a, Value.int IntKind.u8 b, Value.int IntKind.i16 lo] 24)) 0 0 0 0 _ rfl
        rw [s1] at hZ s2
        have hB := hb.trans (hb2.mono (by omega))
        have hR2 := hR.below hb2
        generalize ((w.alloc (Obj.cells #[Value.int IntKind.u8 a, Value.int IntKind.u8 b, Value.int IntKind.i16 lo] 24)).alloc (Obj.cells #[Value.int IntKind.i8 0, Value.int IntKind.i64 0, Value.int IntKind.i8 0, Value.int IntKind.i64 0] 29)) = W1 at *
        have hlt : w.heap.size + 1 < W1.heap.size := by omega
        clear hR hb hb2 s1 s2
        obtain ⟨f0, f1, f2⟩ := hR2.cells
        go_upto_region 2 with fail
        obtain ⟨hM, s3, hb3⟩ := run_new W1 0 lo 0 r _ rfl
        have hR3 := hR2.below hb3
        have hZ3 := hZ.below hlt hb3
        have hB3 := hB.trans (hb3.mono (by omega))
        generalize (W1.alloc (Obj.cells #[Value.int IntKind.i8 0, Value.int IntKind.i64 lo, Value.int IntKind.i8 0, Value.int IntKind.i64 r] 29)) = W3 at *
        have hg : w.heap.size + 1 < W1.heap.size := hlt
        clear hR2 hZ hB hb3 s3 hlt f0 f1 f2
        generalize W1.heap.size = g at *
        obtain ⟨f0, f1, f2⟩ := hR3.cells
        obtain ⟨m0, m1, m2, m3⟩ := hM.quad
        have y0 := hM.frozen 0
        have y1 := hM.frozen 1
        have y2 := hM.frozen 2
        have y3 := hM.frozen 3
        obtain ⟨z0, z1, z2, z3⟩ := hZ3.quad
        have x0 := hZ3.frozen 0
        have x1 := hZ3.frozen 1
        have x2 := hZ3.frozen 2
        have x3 := hZ3.frozen 3
        have hne : ¬ g = w.heap.size + 1 := by omega
        have hne2 : ¬ w.heap.size + 1 = g := by omega
        have hne3 : ¬ g = w.heap.size := by omega
        have hne4 : ¬ w.heap.size = g := by omega
        go_wp2_with fail
        exact bodyPost_ret (res_run1 rfl rfl (((((hZ3.other (g' := g) (k := 0) (u := .int .i8 (-1)) (by omega)).other (g' := g) (k := 1) (u := .int .i64 0) (by omega)).other (g' := g) (k := 2) (u := .int .i8 1) (by omega)).other (g' := g) (k := 3) (u := .int .i64 0) (by omega)).store (-1) 0 1 0).quad) rfl ⟨rfl, set4_below (setH_below (set2_below hB3 (g := g) (by omega) (-1) 0) (g := g) (by omega) 1 0) (by omega) (-1) 0 1 0⟩
      · have n0 : (m == 0) = false := beq_eq_false_iff_ne.2 q0
        have n1 : (m == 1) = false := beq_eq_false_iff_ne.2 q1
        have n2 : (m == 2) = false := beq_eq_false_iff_ne.2 q2
        rw [if_neg (by omega), if_neg (by omega), if_neg (by omega), if_neg (by omega), e5]
        clear q0 q1 q2
        go_enter Tryd.func5, Tryd.ntmps5
        go_upto_region 1 with fail
        obtain ⟨hR, s1, hb⟩ := RB.new w a b lo _ rfl
        obtain ⟨hZ, s2, hb2⟩ := run_new (w.alloc (Obj.cells #[Value.int IntKind.u8 a, Value.int IntKind.u8 b, Value.int IntKind.i16 lo] 24)) 0 0 0 0 _ rfl
        rw [s1] at hZ s2
        have hB := hb.trans (hb2.mono (by omega))
        have hR2 := hR.below hb2
        generalize ((w.alloc (Obj.cells #[Value.int IntKind.u8 a, Value.int IntKind.u8 b, Value.int IntKind.i16 lo] 24)).alloc (Obj.cells #[Value.int IntKind.i8 0, Value.int IntKind.i64 0, Value.int IntKind.i8 0, Value.int IntKind.i64 0] 29)) = W1 at *
        have hlt : w.heap.size + 1 < W1.heap.size := by omega
        clear hR hb hb2 s1 s2
        obtain ⟨f0, f1, f2⟩ := hR2.cells
        go_upto_region 2 with fail
        obtain ⟨hM, s3, hb3⟩ := run_new W1 0 lo 0 r _ rfl
        have hR3 := hR2.below hb3
        have hZ3 := hZ.below hlt hb3
        have hB3 := hB.trans (hb3.mono (by omega))
        generalize (W1.alloc (Obj.cells #[Value.int IntKind.i8 0, Value.int IntKind.i64 lo, Value.int IntKind.i8 0, Value.int IntKind.i64 r] 29)) = W3 at *
        have hg : w.heap.size + 1 < W1.heap.size := hlt
        clear hR2 hZ hB hb3 s3 hlt f0 f1 f2
        generalize W1.heap.size = g at *
        obtain ⟨f0, f1, f2⟩ := hR3.cells
        obtain ⟨m0, m1, m2, m3⟩ := hM.quad
        have y0 := hM.frozen 0
        have y1 := hM.frozen 1
        have y2 := hM.frozen 2
        have y3 := hM.frozen 3
        obtain ⟨z0, z1, z2, z3⟩ := hZ3.quad
        have x0 := hZ3.frozen 0
        have x1 := hZ3.frozen 1
        have x2 := hZ3.frozen 2
        have x3 := hZ3.frozen 3
        have hne : ¬ g = w.heap.size + 1 := by omega
        have hne2 : ¬ w.heap.size + 1 = g := by omega
        have hne3 : ¬ g = w.heap.size := by omega
        have hne4 : ¬ w.heap.size = g := by omega
        go_wp2_with fail
        exact bodyPost_ret (res_run1 rfl rfl (hZ3.store 0 lo 0 r).quad) rfl ⟨rfl, set4_below hB3 (by omega) 0 lo 0 r⟩
end Go.Proofs.YtmbaohjekeiphaaDoor.run9
