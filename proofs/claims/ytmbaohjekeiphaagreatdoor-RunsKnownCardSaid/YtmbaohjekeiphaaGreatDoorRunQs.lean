/- Worlds in which some blocks of an earlier one stay as they were: for regions that draw their order. -/
import Derived.Test.YtmbaohjekeiphaaGreatDoorOrdG
import Derived.Test.YtmbaohjekeiphaaGreatDoorRuns1
import Derived.Test.YtmbaohjekeiphaaGreatDoorEnds1
import Derived.WalkKit
import Derived.Test.YtmbaohjekeiphaaGreatDoorEnds2
import Derived.WalkSmall
namespace Go.Proofs.YtmbaohjekeiphaaGreatDoor
open Go.RowKit

theorem bst {W X Y : World} (h : Below W.heap.size W X) (hb : Below X.heap.size X Y) : Below W.heap.size W Y := h.trans (hb.mono h.size)
theorem growsB : GrowsG (fun X Y : World => Below X.heap.size X Y) := ⟨fun x => Below.refl _ x, fun _ _ _ h1 h2 => h1.trans (h2.mono h1.size)⟩
theorem callG {f : FuncId} {args : Array Value} {v : Value} {W X : World} (hc : ∀ X, Calls Tryz.prog f args X fun x w' => x = .returned v ∧ Below X.heap.size X w') (h : Below W.heap.size W X) :
    Calls Tryz.prog f args X fun x w' => x = .returned v ∧ Below W.heap.size W w' ∧ Below X.heap.size X w' := (hc X).mono fun _ _ ⟨h1, h2⟩ => ⟨h1, h.trans (h2.mono h.size), h2⟩
/-- The blocks l of W, and those below B, are as they were. -/
structure Kp (W : World) (B : Nat) (l : List Nat) (X : World) : Prop where
  low : Below B W X
  size : W.heap.size ≤ X.heap.size
  at_ : ∀ g ∈ l, g < W.heap.size ∧ X.heap[g]? = W.heap[g]?
theorem Kp.start {W : World} {B : Nat} {l : List Nat} (hl : ∀ g ∈ l, g < W.heap.size) : Kp W B l W := ⟨Below.refl _ _, Nat.le_refl _, fun g hg => ⟨hl g hg, rfl⟩⟩
theorem Kp.step {W X Y : World} {B : Nat} {l : List Nat} (hB : B ≤ W.heap.size) (h : Kp W B l X) (hb : Below X.heap.size X Y) : Kp W B l Y :=
  ⟨h.low.trans (hb.mono (Nat.le_trans hB h.size)), Nat.le_trans h.size hb.size, fun g hg => ⟨(h.at_ g hg).1, (hb.block g (Nat.lt_of_lt_of_le (h.at_ g hg).1 h.size)).trans (h.at_ g hg).2⟩⟩
theorem callK {f : FuncId} {args : Array Value} {v : Value} {W X : World} {B : Nat} {l : List Nat} (hB : B ≤ W.heap.size) (hc : ∀ X, Calls Tryz.prog f args X fun x w' => x = .returned v ∧ Below X.heap.size X w') (h : Kp W B l X) :
    Calls Tryz.prog f args X fun x w' => x = .returned v ∧ Kp W B l w' ∧ Below X.heap.size X w' := (hc X).mono fun _ _ ⟨h1, h2⟩ => ⟨h1, h.step hB h2, h2⟩
theorem heap_set4_ne {w : World} {g g' : Nat} (hn : g ≠ g') (a b c f : Int) : (set4 w g' a b c f).heap[g]? = w.heap[g]? := by
  unfold Go.Proofs.YtmbaohjekeiphaaGreatDoor.set4
  exact (heap_setCell_other _ _ g _ hn).trans ((heap_setCell_other _ _ g _ hn).trans ((heap_setCell_other _ _ g _ hn).trans (heap_setCell_other _ _ g _ hn)))
theorem size_set4 (X : World) (g : Nat) (a b c f : Int) : (set4 X g a b c f).heap.size = X.heap.size := by simp [set4]
theorem Kp.set4 {W X : World} {B : Nat} {l : List Nat} (h : Kp W B l X) {g : Nat} (hg : B ≤ g) (hn : ∀ k ∈ l, k ≠ g) (a b c f : Int) : Kp W B l (set4 X g a b c f) :=
  ⟨set4_below h.low hg a b c f, by rw [size_set4]; exact h.size, fun k hk => ⟨(h.at_ k hk).1, (heap_set4_ne (hn k hk) a b c f).trans (h.at_ k hk).2⟩⟩
theorem Kp.run {W X : World} {B : Nat} {l : List Nat} (h : Kp W B l X) {g : Nat} (hg : g ∈ l) {a b c f : Int} (hk : BkU W g a b c f) : BkU X g a b c f := (h.at_ g hg).2.trans hk
theorem Kp.fin {W X : World} {B : Nat} {l : List Nat} (h : Kp W B l X) {g : Nat} (hg : g ∈ l) {i d : Int} (hk : BkE W g i d) : BkE X g i d := (h.at_ g hg).2.trans hk
theorem end_new2 (w : World) (i d : Int) (W : World) (hW : W = w.alloc (.cells #[.int .i8 i, .int .i64 d] 24)) : BkE W w.heap.size i d ∧ W.heap.size = w.heap.size + 1 ∧ Below w.heap.size w W := by
  subst hW
  exact ⟨heap_alloc_new w _, by simp, by go_grown⟩
/-- A pair of ends in a block of its own; a pair of texts; a number. -/
def BkP (w : World) (g : Nat) (i d j e : Int) : Prop := w.heap[g]? = some (.cells #[.int .i8 i, .int .i64 d, .int .i8 j, .int .i64 e] 71 (0, 0))
theorem BkP.quad {w : World} {g : Nat} {i d j e : Int} (h : BkP w g i d j e) : Quad g i d j e w := ⟨cell_of_row w g 0 _ _ _ h, cell_of_row w g 1 _ _ _ h, cell_of_row w g 2 _ _ _ h, cell_of_row w g 3 _ _ _ h⟩
theorem BkP.frozen {w : World} {g : Nat} {i d j e : Int} (h : BkP w g i d j e) (n : Nat) : w.frozen? ⟨g, n, none⟩ = false := frozen_of_row w g n _ _ h
theorem BkP.below {w w' : World} {g B : Nat} {i d j e : Int} (h : BkP w g i d j e) (hg : g < B) (hb : Below B w w') : BkP w' g i d j e := (hb.block g hg).trans h
theorem BkP.store {w : World} {g : Nat} {i d j e : Int} (h : BkP w g i d j e) (i' d' j' e' : Int) : BkP (set4 w g i' d' j' e') g i' d' j' e' :=
  heap_setCell_same _ g 3 _ _ _ (heap_setCell_same _ g 2 _ _ _ (heap_setCell_same _ g 1 _ _ _ (heap_setCell_same w g 0 _ _ _ h)))
theorem par_new (w : World) (i d j e : Int) (W : World) (hW : W = w.alloc (.cells #[.int .i8 i, .int .i64 d, .int .i8 j, .int .i64 e] 71)) : BkP W w.heap.size i d j e ∧ W.heap.size = w.heap.size + 1 ∧ Below w.heap.size w W := by
  subst hW
  exact ⟨heap_alloc_new w _, by simp, by go_grown⟩
theorem res_par1 {fn : Func} {t : Tmp} {tmps : Array Value} {W : World} {g : Nat} {i d j e : Int} (h : fn.results = #[.cell t 71]) (ha : tmps[t]?.getD undef = .pointer (some ⟨g, 0, none⟩)) (hb : Quad g i d j e W) :
    (results fn tmps).run Tryz.prog W = .ok (U4 i d j e) W := by
  obtain ⟨q0, q1, q2, q3⟩ := hb
  simp [results, h, go_sem, ha, q0, q1, q2, q3]
theorem res_par2 {fn : Func} {t r : Tmp} {tmps : Array Value} {W : World} {g : Nat} {i d j e : Int} {z : Value} (h : fn.results = #[.cell t 71, .tmp r]) (ha : tmps[t]?.getD undef = .pointer (some ⟨g, 0, none⟩)) (hz : tmps[r]?.getD undef = z) (hb : Quad g i d j e W) :
    (results fn tmps).run Tryz.prog W = .ok (.tuple #[U4 i d j e, z]) W := by
  obtain ⟨q0, q1, q2, q3⟩ := hb
  simp [results, h, go_sem, ha, hz, q0, q1, q2, q3]
def BkW (w : World) (g : Nat) (a b : ByteArray) : Prop := w.heap[g]? = some (.cells #[.string a, .string b] 90 (0, 0))
def DuoS (g : Nat) (a b : ByteArray) (X : World) : Prop := X.cell? ⟨g, 0, none⟩ = some (.string a) ∧ X.cell? ⟨g, 1, none⟩ = some (.string b)
theorem BkW.duo {w : World} {g : Nat} {a b : ByteArray} (h : BkW w g a b) : DuoS g a b w := ⟨cell_of_row w g 0 _ _ _ h, cell_of_row w g 1 _ _ _ h⟩
theorem BkW.frozen {w : World} {g : Nat} {a b : ByteArray} (h : BkW w g a b) (n : Nat) : w.frozen? ⟨g, n, none⟩ = false := frozen_of_row w g n _ _ h
theorem BkW.below {w w' : World} {g B : Nat} {a b : ByteArray} (h : BkW w g a b) (hg : g < B) (hb : Below B w w') : BkW w' g a b := (hb.block g hg).trans h
def set2S (X : World) (g : Nat) (a b : ByteArray) : World := (X.setCell ⟨g, 0, none⟩ (.string a)).setCell ⟨g, 1, none⟩ (.string b)
theorem BkW.store {w : World} {g : Nat} {a b : ByteArray} (h : BkW w g a b) (x y : ByteArray) : BkW (set2S w g x y) g x y := heap_setCell_same _ g 1 _ _ _ (heap_setCell_same w g 0 _ _ _ h)
theorem set2S_below {w X : World} {B : Nat} (h : Below B w X) {g : Nat} (hg : B ≤ g) (x y : ByteArray) : Below B w (set2S X g x y) := (h.setCell (p := ⟨g, 0, none⟩) hg _).setCell (p := ⟨g, 1, none⟩) hg _
theorem str_new (w : World) (a b : ByteArray) (W : World) (hW : W = w.alloc (.cells #[.string a, .string b] 90)) : BkW W w.heap.size a b ∧ W.heap.size = w.heap.size + 1 ∧ Below w.heap.size w W := by
  subst hW
  exact ⟨heap_alloc_new w _, by simp, by go_grown⟩
theorem res_str2 {fn : Func} {t r : Tmp} {tmps : Array Value} {W : World} {g : Nat} {a b : ByteArray} {z : Value} (h : fn.results = #[.cell t 90, .tmp r]) (ha : tmps[t]?.getD undef = .pointer (some ⟨g, 0, none⟩)) (hz : tmps[r]?.getD undef = z) (hb : DuoS g a b W) :
    (results fn tmps).run Tryz.prog W = .ok (.tuple #[.agg #[.string a, .string b], z]) W := by
  obtain ⟨q0, q1⟩ := hb
  simp [results, h, go_sem, ha, hz, q0, q1]
def BkI (w : World) (g : Nat) (k : Int) : Prop := w.heap[g]? = some (.cells #[.int .i64 k] 2 (0, 0))
theorem BkI.uno {w : World} {g : Nat} {k : Int} (h : BkI w g k) : w.cell? ⟨g, 0, none⟩ = some (.int .i64 k) := cell_of_row w g 0 _ _ _ h
theorem BkI.below {w w' : World} {g B : Nat} {k : Int} (h : BkI w g k) (hg : g < B) (hb : Below B w w') : BkI w' g k := (hb.block g hg).trans h
theorem int_new (w : World) (k : Int) (W : World) (hW : W = w.alloc (.cells #[.int .i64 k] 2)) : BkI W w.heap.size k ∧ W.heap.size = w.heap.size + 1 ∧ Below w.heap.size w W := by
  subst hW
  exact ⟨heap_alloc_new w _, by simp, by go_grown⟩
end Go.Proofs.YtmbaohjekeiphaaGreatDoor
/- What the functions of package runs return. -/
namespace Go.Proofs.YtmbaohjekeiphaaGreatDoor
/-- What the functions return. -/
def okU (a b : Ru) : Bool := ruE a == 0 && ruE b == 0
def toB (a b : Ru) : Bool := okU a b && ruTo a b
def coB (a b : Ru) : Bool := okU a b && ruOv a b
def wiB (a b : Ru) : Bool := okU a b && ruW a b
def haB (a : Ru) (n : Int) : Bool := ruE a == 0 && ruH a n
def joR (a b : Ru) : Ru := if toB a b = true then ruJ a b else ru0
def coR (a b : Ru) : Ru := if coB a b = true then ruK a b else ru0
def ofE (lo hi : Int) : Int := if lo ≤ hi then 0 else 12
def ofR (lo hi : Int) : Ru := if lo ≤ hi then ⟨0, lo, 0, hi⟩ else ru0
def leE (r : Ru) : Int := if ruE r = 0 then ruLE r else ruE r
def leV (r : Ru) : Int := if ruE r = 0 then ruL r else 0
def shE (r : Ru) (k : Int) : Int := if ruE r = 0 then ruSE r k else ruE r
def shR (r : Ru) (k : Int) : Ru := if ruE r = 0 then ruS r k else ru0
def teS (r : Ru) : ByteArray := if ruE r = 0 then ruT r else ⟨#[]⟩
end Go.Proofs.YtmbaohjekeiphaaGreatDoor
/- The functions of package runs, for the landed code: Check, areRight, checked, Of, span, overlap, Compare, Within, Has. -/
namespace Go.Proofs.YtmbaohjekeiphaaGreatDoor
open Go.RowKit

theorem korE_any (g : Nat) (a b : Int) (w : World) (h0 : w.cell? ⟨g, 0, none⟩ = some (.int .i64 a)) (h1 : w.cell? ⟨g, 1, none⟩ = some (.int .i64 b)) :
    Calls Tryz.prog 36 #[.slice (some ⟨g, 0, none⟩) 2 2] w fun x w' => x = .returned (.int .i64 (orV a b)) ∧ w = w' := by
  by_cases ha : a = 0
  · by_cases hb : b = 0
    · subst ha; subst hb
      go_enter Tryz.func36, Tryz.ntmps36
      go_wp2
      refine wp_loop_rounds 3 ?_
      rw [rounds_succ]; go_wp2
      rw [rounds_succ]; go_wp2
      rw [rounds_succ]; go_wp2
      go_ret
      exact ⟨rfl, rfl⟩
    · have q : (b != 0) = true := by simp [hb]
      have e : orV a b = b := if_pos ha
      subst ha
      rw [e]; clear e
      go_enter Tryz.func36, Tryz.ntmps36
      go_wp2
      refine wp_loop_rounds 3 ?_
      rw [rounds_succ]; go_wp2
      rw [rounds_succ]; go_wp2
      go_ret
      exact ⟨rfl, rfl⟩
  · have q : (a != 0) = true := by simp [ha]
    have e : orV a b = a := if_neg ha
    rw [e]; clear e
    go_enter Tryz.func36, Tryz.ntmps36
    go_wp2
    refine wp_loop_rounds 3 ?_
    rw [rounds_succ]; go_wp2
    go_ret
    exact ⟨rfl, rfl⟩
theorem enE_tw (i d : Int) : (enE i d = 0 ∧ (i = 0 ∨ i = -1 ∨ i = 1)) ∨ enE i d = 5 := by
  rcases enE_cases i d with ⟨e, h⟩ | ⟨e, h, _⟩ | ⟨e, h, _⟩ | ⟨e, _⟩
  · exact .inl ⟨e, .inl h⟩
  · exact .inl ⟨e, by omega⟩
  · exact .inl ⟨e, by omega⟩
  · exact .inr e
theorem chk_cases (r : Ru) :
    (orV (enE r.i r.d) (enE r.j r.e) = 5 ∧ ruE r = 5) ∨
    (orV (enE r.i r.d) (enE r.j r.e) = 0 ∧ 0 < r.i ∧ ruE r = 4) ∨
    (orV (enE r.i r.d) (enE r.j r.e) = 0 ∧ ¬ 0 < r.i ∧ r.j < 0 ∧ ruE r = 4) ∨
    (orV (enE r.i r.d) (enE r.j r.e) = 0 ∧ ¬ 0 < r.i ∧ ¬ r.j < 0 ∧ 0 < enC r.i r.d r.j r.e ∧ ruE r = 12) ∨
    (orV (enE r.i r.d) (enE r.j r.e) = 0 ∧ ¬ 0 < r.i ∧ ¬ r.j < 0 ∧ ¬ 0 < enC r.i r.d r.j r.e ∧ ruE r = 0) := by
  have h2 : 0 < enC r.i r.d r.j r.e ↔ enC r.i r.d r.j r.e = 1 := by
    unfold enC
    split
    · omega
    · split
      · omega
      · split
        · omega
        · split <;> omega
  unfold ruE orV
  rcases enE_tw r.i r.d with ⟨e1, q1⟩ | e1 <;> rcases enE_tw r.j r.e with ⟨e2, q2⟩ | e2 <;> rw [e1, e2]
  · by_cases a1 : 0 < r.i
    · have : r.i = 1 := by omega
      exact .inr (.inl ⟨rfl, a1, by simp [this]⟩)
    · by_cases a2 : r.j < 0
      · have : r.j = -1 := by omega
        exact .inr (.inr (.inl ⟨rfl, a1, a2, by simp [this]⟩))
      · have b1 : ¬ (r.i = 1 ∨ r.j = -1) := by omega
        by_cases a3 : 0 < enC r.i r.d r.j r.e
        · exact .inr (.inr (.inr (.inl ⟨rfl, a1, a2, a3, by rw [if_pos ⟨rfl, rfl⟩, if_neg b1, if_pos (h2.1 a3)]⟩)))
        · exact .inr (.inr (.inr (.inr ⟨rfl, a1, a2, a3, by rw [if_pos ⟨rfl, rfl⟩, if_neg b1, if_neg (fun q => a3 (h2.2 q))]⟩)))
  · exact .inl ⟨by simp, by simp⟩
  · exact .inl ⟨by simp, by simp⟩
  · exact .inl ⟨by simp, by simp⟩
set_option maxHeartbeats 1000000 in
set_option maxRecDepth 100000 in
theorem rchk_any (r : Ru) (w : World) : Calls Tryz.prog 8 #[V4 r] w fun x w' => x = .returned (.int .i64 (ruE r)) ∧ Below w.heap.size w w' := by
  have hA := fun X => kchk_any r.i r.d X
  have hB := fun X => kchk_any r.j r.e X
  have hC := fun X => kcomp_any r.i r.d r.j r.e X
  have hcs := chk_cases r
  obtain ⟨i, d, j, e⟩ := r
  dsimp only at *
  generalize enE i d = e1 at *
  generalize enE j e = e2 at *
  generalize enC i d j e = c at *
  generalize ruE ⟨i, d, j, e⟩ = v at *
  have hO := fun (g : Nat) (X : World) h0 h1 => korE_any g e1 e2 X h0 h1
  generalize orV e1 e2 = o at *
  rcases hcs with ⟨rfl, rfl⟩ | ⟨rfl, p1, rfl⟩ | ⟨rfl, p1, p2, rfl⟩ | ⟨rfl, p1, p2, p3, rfl⟩ | ⟨rfl, p1, p2, p3, rfl⟩
  all_goals
    go_enter Tryz.func8, Tryz.ntmps8
    go_upto_region 1 with fail
    obtain ⟨hK, hs, hb⟩ := run_new w i d j e _ rfl
    generalize (w.alloc (Obj.cells #[Value.int IntKind.i8 i, Value.int IntKind.i64 d, Value.int IntKind.i8 j, Value.int IntKind.i64 e] 26)) = W1 at *
    obtain ⟨k0, k1, k2, k3⟩ := id hK.quad
    have hX := Below.refl W1.heap.size W1
    have HA := Lib.hid (fun X (h : Below W1.heap.size W1 X) => callB hA h)
    have HC1 := Lib.hid (fun X (h : Below W1.heap.size W1 X) => callB hB h)
    have HD := Lib.hid (fun X (h : Below W1.heap.size W1 X) => callB hC h)
    have HO := Lib.hid hO
    clear hA hB hC hO
    go_region_held3 (fun x => x.cell? ⟨w.heap.size, 0, none⟩ = some (.int .i8 i) ∧ x.cell? ⟨w.heap.size, 1, none⟩ = some (.int .i64 d) ∧ x.cell? ⟨w.heap.size, 2, none⟩ = some (.int .i8 j) ∧ x.cell? ⟨w.heap.size, 3, none⟩ = some (.int .i64 e)) (go_keep) (first
      | (go_at_call 37; ((with_reducible refine (HA.out _ (bst hX (by go_grown))).mono ?_); rintro z w2 ⟨rfl, hk⟩; (try clear hX); have hX := hk; (try clear m0 m1 m2 m3); obtain ⟨m0, m1, m2, m3⟩ := (hK.below (by omega) hk).quad; clear hk))
      | (go_at_call 37; ((with_reducible refine (HC1.out _ (bst hX (by go_grown))).mono ?_); rintro z w2 ⟨rfl, hk⟩; (try clear hX); have hX := hk; (try clear m0 m1 m2 m3); obtain ⟨m0, m1, m2, m3⟩ := (hK.below (by omega) hk).quad; clear hk))
      | (go_at_call 36; ((with_reducible refine (HO.out _ _ (cell_of_row _ _ 0 _ _ _ (heap_alloc_new _ _)) (cell_of_row _ _ 1 _ _ _ (heap_alloc_new _ _))).mono ?_); rintro z w3 ⟨rfl, rfl⟩)))
    have hY := bst hX (show Below w2.heap.size w2 (w2.alloc (.cells #[.int .i64 e1, .int .i64 e2] 28)) from by go_grown)
    generalize (w2.alloc (Obj.cells #[Value.int IntKind.i64 e1, Value.int IntKind.i64 e2] 28)) = W2 at *
    clear hX m0 m1 m2 m3
    have hX := hY
    obtain ⟨m0, m1, m2, m3⟩ := (hK.below (by omega) hY).quad
    clear hY
    go_wp2_with (go_at_call 38; ((with_reducible refine (HD.out _ (bst hX (by go_grown))).mono ?_); rintro z w2 ⟨rfl, hk⟩; (try clear hX); have hX := hk; skip; clear hk))
    go_ret
    exact ⟨rfl, hb.trans (hX.mono (by omega))⟩
end Go.Proofs.YtmbaohjekeiphaaGreatDoor
/- Worlds that grow; contracts carried from world to world, for regions that draw their order. -/
namespace Go.Proofs.YtmbaohjekeiphaaGreatDoor
open Go.RowKit

set_option maxRecDepth 100000 in
theorem rwit0_any (a b : Ru) (w : World) (hR : ∀ X, Calls Tryz.prog 43 #[V4 a, V4 b] X fun x w' => x = .returned (.bool (okU a b)) ∧ Below X.heap.size X w')
    (hS : ∀ X, Calls Tryz.prog 42 #[V4 a, V4 b] X fun x w' => x = .returned (V4 (ruJ a b)) ∧ Below X.heap.size X w') : Calls Tryz.prog 19 #[V4 a, V4 b] w fun x w' => x = .returned (.bool (okU a b && ruEq (ruJ a b) b)) ∧ Below w.heap.size w w' := by
  have q := fun w => run9.eq_any (ruJ a b) b w
  generalize ruEq (ruJ a b) b = y at *
  generalize ruJ a b = r at *
  generalize okU a b = x at *
  obtain ⟨i, d, j, e⟩ := a
  obtain ⟨a, b, c, f⟩ := b
  obtain ⟨i2, d2, j2, e2⟩ := r
  (try dsimp only at *)
  cases x
  · go_enter Tryz.func19, Tryz.ntmps19
    go_upto_region 1 with fail
    obtain ⟨hK, hL, hs, hb⟩ := run_two w i d j e a b c f _ rfl
    generalize ((w.alloc (Obj.cells #[Value.int IntKind.i8 i, Value.int IntKind.i64 d, Value.int IntKind.i8 j, Value.int IntKind.i64 e] 26)).alloc (Obj.cells #[Value.int IntKind.i8 a, Value.int IntKind.i64 b, Value.int IntKind.i8 c, Value.int IntKind.i64 f] 26)) = W1 at *
    have HF := Lib.hid (fun X (h : Below W1.heap.size W1 X) => And.intro (hK.below (by omega) h).quad (hL.below (by omega) h).quad)
    have HR := Lib.hid (fun X (h : Below W1.heap.size W1 X) => callG hR h)
    have HS := Lib.hid (fun X (h : Below W1.heap.size W1 X) => callG hS h)
    have hX : Below W1.heap.size W1 W1.drew := by go_grown
    clear hR hS hK hL
    refine wp_region_G (S := fun X => Below W1.heap.size W1 X) (by kernel_rfl) growsB (hX) ?_
    refine tG (i := 0) (o := ?oa0) (v := ?va0) growsB ?ia0 (by kernel_rfl) ?qa0 ?ya0 ?ra0
    case ia0 => (simp only [gA, gZ]; rfl)
    case qa0 => exact fun _ _ _ h => h
    case ya0 => exact .inl ⟨by rfl, by (intro w hSw; obtain ⟨⟨k0, k1, k2, k3⟩, ⟨l0, l1, l2, l3⟩⟩ := HF.out w hSw; go_simp; try with_reducible rfl)⟩
    (try simp only [Act.put, pA, pZ, pS])
    refine tG (i := 1) (o := ?oa1) (v := ?va1) growsB ?ia1 (by kernel_rfl) ?qa1 ?ya1 ?ra1
    case ia1 => (simp only [gA, gS, gZ]; rfl)
    case qa1 => exact fun _ _ _ h => h
    case ya1 => exact .inl ⟨by rfl, by (intro w hSw; obtain ⟨⟨k0, k1, k2, k3⟩, ⟨l0, l1, l2, l3⟩⟩ := HF.out w hSw; go_simp; try with_reducible rfl)⟩
    (try simp only [Act.put, pA, pZ, pS])
    refine cG (i := 2) (o := ?oa2) growsB ?ia2 (by kernel_rfl) ?qa2 ?wa2 ?ea2 HR.out ?ra2
    case ia2 => (simp only [gA, gS, gZ]; rfl)
    case qa2 => exact fun _ _ _ h => h
    case wa2 => rfl
    case ea2 => (intro w; go_simp; try with_reducible rfl)
    (try simp only [Act.put, pA, pZ, pS])
    refine tG (i := 3) (o := ?oa3) (v := ?va3) growsB ?ia3 (by kernel_rfl) ?qa3 ?ya3 ?ra3
    case ia3 => (simp only [gA, gS, gZ]; rfl)
    case qa3 => exact fun _ _ _ h => h
    case ya3 => exact .inl ⟨by rfl, by (intro w hSw; obtain ⟨⟨k0, k1, k2, k3⟩, ⟨l0, l1, l2, l3⟩⟩ := HF.out w hSw; go_simp; try with_reducible rfl)⟩
    (try simp only [Act.put, pA, pZ, pS])
    refine tG (i := 4) (o := ?oa4) (v := undef) growsB ?ia4 (by kernel_rfl) ?qa4 ?ya4 ?ra4
    case ia4 => (simp only [gA, gS, gZ]; rfl)
    case qa4 => exact fun _ _ _ h => h
    case ya4 => exact .inr ⟨rfl, rfl⟩
    (try simp only [Act.put, pA, pZ, pS])
    refine tG (i := 5) (o := ?oa5) (v := undef) growsB ?ia5 (by kernel_rfl) ?qa5 ?ya5 ?ra5
    case ia5 => (simp only [gA, gS, gZ]; rfl)
    case qa5 => exact fun _ _ _ h => h
    case ya5 => exact .inr ⟨rfl, rfl⟩
    (try simp only [Act.put, pA, pZ, pS])
    refine tG (i := 6) (o := ?oa6) (v := undef) growsB ?ia6 (by kernel_rfl) ?qa6 ?ya6 ?ra6
    case ia6 => (simp only [gA, gS, gZ]; rfl)
    case qa6 => exact fun _ _ _ h => h
    case ya6 => exact .inr ⟨rfl, rfl⟩
    (try simp only [Act.put, pA, pZ, pS])
    refine tG (i := 7) (o := ?oa7) (v := undef) growsB ?ia7 (by kernel_rfl) ?qa7 ?ya7 ?ra7
    case ia7 => (simp only [gA, gS, gZ]; rfl)
    case qa7 => exact fun _ _ _ h => h
    case ya7 => exact .inr ⟨rfl, rfl⟩
    (try simp only [Act.put, pA, pZ, pS])
    refine tG (i := 8) (o := ?oa8) (v := undef) growsB ?ia8 (by kernel_rfl) ?qa8 ?ya8 ?ra8
    case ia8 => (simp only [gA, gS, gZ]; rfl)
    case qa8 => exact fun _ _ _ h => h
    case ya8 => exact .inr ⟨rfl, rfl⟩
    (try simp only [Act.put, pA, pZ, pS])
    refine tG (i := 9) (o := ?oa9) (v := ?va9) growsB ?ia9 (by kernel_rfl) ?qa9 ?ya9 ?ra9
    case ia9 => (simp only [gA, gS, gZ]; rfl)
    case qa9 => exact fun _ _ _ h => h
    case ya9 => exact .inl ⟨by rfl, by (intro w hSw; obtain ⟨⟨k0, k1, k2, k3⟩, ⟨l0, l1, l2, l3⟩⟩ := HF.out w hSw; go_simp; try with_reducible rfl)⟩
    (try simp only [Act.put, pA, pZ, pS])
    refine tG (i := 10) (o := ?oa10) (v := ?va10) growsB ?ia10 (by kernel_rfl) ?qa10 ?ya10 ?ra10
    case ia10 => (simp only [gA, gS, gZ]; rfl)
    case qa10 => exact fun _ _ _ h => h
    case ya10 => exact .inl ⟨by rfl, by (intro w hSw; obtain ⟨⟨k0, k1, k2, k3⟩, ⟨l0, l1, l2, l3⟩⟩ := HF.out w hSw; go_simp; try with_reducible rfl)⟩
    (try simp only [Act.put, pA, pZ, pS])
    refine wpAnyG_done (by kernel_rfl) ?_ _
    (try clear hX)
    intro w9 hX hT
    go_wp2
    go_ret
    exact ⟨rfl, hb.trans (hX.mono (by omega))⟩
  · go_enter Tryz.func19, Tryz.ntmps19
    go_upto_region 1 with fail
    obtain ⟨hK, hL, hs, hb⟩ := run_two w i d j e a b c f _ rfl
    generalize ((w.alloc (Obj.cells #[Value.int IntKind.i8 i, Value.int IntKind.i64 d, Value.int IntKind.i8 j, Value.int IntKind.i64 e] 26)).alloc (Obj.cells #[Value.int IntKind.i8 a, Value.int IntKind.i64 b, Value.int IntKind.i8 c, Value.int IntKind.i64 f] 26)) = W1 at *
    have HF := Lib.hid (fun X (h : Below W1.heap.size W1 X) => And.intro (hK.below (by omega) h).quad (hL.below (by omega) h).quad)
    have HR := Lib.hid (fun X (h : Below W1.heap.size W1 X) => callG hR h)
    have HS := Lib.hid (fun X (h : Below W1.heap.size W1 X) => callG hS h)
    have hX : Below W1.heap.size W1 W1.drew := by go_grown
    clear hR hS hK hL
    refine wp_region_G (S := fun X => Below W1.heap.size W1 X) (by kernel_rfl) growsB (hX) ?_
    refine tG (i := 0) (o := ?ob0) (v := ?vb0) growsB ?ib0 (by kernel_rfl) ?qb0 ?yb0 ?rb0
    case ib0 => (simp only [gA, gZ]; rfl)
    case qb0 => exact fun _ _ _ h => h
    case yb0 => exact .inl ⟨by rfl, by (intro w hSw; obtain ⟨⟨k0, k1, k2, k3⟩, ⟨l0, l1, l2, l3⟩⟩ := HF.out w hSw; go_simp; try with_reducible rfl)⟩
    (try simp only [Act.put, pA, pZ, pS])
    refine tG (i := 1) (o := ?ob1) (v := ?vb1) growsB ?ib1 (by kernel_rfl) ?qb1 ?yb1 ?rb1
    case ib1 => (simp only [gA, gS, gZ]; rfl)
    case qb1 => exact fun _ _ _ h => h
    case yb1 => exact .inl ⟨by rfl, by (intro w hSw; obtain ⟨⟨k0, k1, k2, k3⟩, ⟨l0, l1, l2, l3⟩⟩ := HF.out w hSw; go_simp; try with_reducible rfl)⟩
    (try simp only [Act.put, pA, pZ, pS])
    refine cG (i := 2) (o := ?ob2) growsB ?ib2 (by kernel_rfl) ?qb2 ?wb2 ?eb2 HR.out ?rb2
    case ib2 => (simp only [gA, gS, gZ]; rfl)
    case qb2 => exact fun _ _ _ h => h
    case wb2 => rfl
    case eb2 => (intro w; go_simp; try with_reducible rfl)
    (try simp only [Act.put, pA, pZ, pS])
    refine tG (i := 3) (o := ?ob3) (v := ?vb3) growsB ?ib3 (by kernel_rfl) ?qb3 ?yb3 ?rb3
    case ib3 => (simp only [gA, gS, gZ]; rfl)
    case qb3 => exact fun _ _ _ h => h
    case yb3 => exact .inl ⟨by rfl, by (intro w hSw; obtain ⟨⟨k0, k1, k2, k3⟩, ⟨l0, l1, l2, l3⟩⟩ := HF.out w hSw; go_simp; try with_reducible rfl)⟩
    (try simp only [Act.put, pA, pZ, pS])
    refine tG (i := 4) (o := ?ob4) (v := ?vb4) growsB ?ib4 (by kernel_rfl) ?qb4 ?yb4 ?rb4
    case ib4 => (simp only [gA, gS, gZ]; rfl)
    case qb4 => exact fun _ _ _ h => h
    case yb4 => exact .inl ⟨by rfl, by (intro w hSw; obtain ⟨⟨k0, k1, k2, k3⟩, ⟨l0, l1, l2, l3⟩⟩ := HF.out w hSw; go_simp; try with_reducible rfl)⟩
    (try simp only [Act.put, pA, pZ, pS])
    refine tG (i := 5) (o := ?ob5) (v := ?vb5) growsB ?ib5 (by kernel_rfl) ?qb5 ?yb5 ?rb5
    case ib5 => (simp only [gA, gS, gZ]; rfl)
    case qb5 => exact fun _ _ _ h => h
    case yb5 => exact .inl ⟨by rfl, by (intro w hSw; obtain ⟨⟨k0, k1, k2, k3⟩, ⟨l0, l1, l2, l3⟩⟩ := HF.out w hSw; go_simp; try with_reducible rfl)⟩
    (try simp only [Act.put, pA, pZ, pS])
    refine cG (i := 6) (o := ?ob6) growsB ?ib6 (by kernel_rfl) ?qb6 ?wb6 ?eb6 HS.out ?rb6
    case ib6 => (simp only [gA, gS, gZ]; rfl)
    case qb6 => exact fun _ _ _ h => h
    case wb6 => rfl
    case eb6 => (intro w; go_simp; try with_reducible rfl)
    (try simp only [Act.put, pA, pZ, pS])
    refine tG (i := 7) (o := ?ob7) (v := ?vb7) growsB ?ib7 (by kernel_rfl) ?qb7 ?yb7 ?rb7
    case ib7 => (simp only [gA, gS, gZ]; rfl)
    case qb7 => exact fun _ _ _ h => h
    case yb7 => exact .inl ⟨by rfl, by (intro w hSw; obtain ⟨⟨k0, k1, k2, k3⟩, ⟨l0, l1, l2, l3⟩⟩ := HF.out w hSw; go_simp; try with_reducible rfl)⟩
    (try simp only [Act.put, pA, pZ, pS])
    refine tG (i := 8) (o := ?ob8) (v := ?vb8) growsB ?ib8 (by kernel_rfl) ?qb8 ?yb8 ?rb8
    case ib8 => (simp only [gA, gS, gZ]; rfl)
    case qb8 => exact fun _ _ _ h => h
    case yb8 => exact .inl ⟨by rfl, by (intro w hSw; obtain ⟨⟨k0, k1, k2, k3⟩, ⟨l0, l1, l2, l3⟩⟩ := HF.out w hSw; go_simp; try with_reducible rfl)⟩
    (try simp only [Act.put, pA, pZ, pS])
    refine tG (i := 9) (o := ?ob9) (v := ?vb9) growsB ?ib9 (by kernel_rfl) ?qb9 ?yb9 ?rb9
    case ib9 => (simp only [gA, gS, gZ]; rfl)
    case qb9 => exact fun _ _ _ h => h
    case yb9 => exact .inl ⟨by rfl, by (intro w hSw; obtain ⟨⟨k0, k1, k2, k3⟩, ⟨l0, l1, l2, l3⟩⟩ := HF.out w hSw; go_simp; try with_reducible rfl)⟩
    (try simp only [Act.put, pA, pZ, pS])
    refine tG (i := 10) (o := ?ob10) (v := ?vb10) growsB ?ib10 (by kernel_rfl) ?qb10 ?yb10 ?rb10
    case ib10 => (simp only [gA, gS, gZ]; rfl)
    case qb10 => exact fun _ _ _ h => h
    case yb10 => exact .inl ⟨by rfl, by (intro w hSw; obtain ⟨⟨k0, k1, k2, k3⟩, ⟨l0, l1, l2, l3⟩⟩ := HF.out w hSw; go_simp; try with_reducible rfl)⟩
    (try simp only [Act.put, pA, pZ, pS])
    refine wpAnyG_done (by kernel_rfl) ?_ _
    (try clear hX)
    intro w9 hX hT
    go_wp2
    go_ret
    exact ⟨rfl, hb.trans (hX.mono (by omega))⟩
end Go.Proofs.YtmbaohjekeiphaaGreatDoor
/- The functions of package runs, for the landed code: areRight, checked, Of, span, overlap, Compare, Within, Has. -/
namespace Go.Proofs.YtmbaohjekeiphaaGreatDoor
open Go.RowKit

set_option maxRecDepth 100000 in
theorem rright_any (a b : Ru) (w : World) : Calls Tryz.prog 43 #[V4 a, V4 b] w fun x w' => x = .returned (.bool (okU a b)) ∧ Below w.heap.size w w' := by
  have hA := fun X => rchk_any a X
  have hB := fun X => rchk_any b X
  have hv : okU a b = (ruE a == 0 && ruE b == 0) := rfl
  rw [hv]; clear hv
  generalize ruE a = x at *
  generalize ruE b = y at *
  obtain ⟨i, d, j, e⟩ := a
  obtain ⟨a, b, c, f⟩ := b
  (try dsimp only at *)
  cases hx : (x == 0)
  all_goals
    go_enter Tryz.func43, Tryz.ntmps43
    go_upto_region 1 with fail
    obtain ⟨hK, hL, hs, hb⟩ := run_two w i d j e a b c f _ rfl
    generalize ((w.alloc (Obj.cells #[Value.int IntKind.i8 i, Value.int IntKind.i64 d, Value.int IntKind.i8 j, Value.int IntKind.i64 e] 26)).alloc (Obj.cells #[Value.int IntKind.i8 a, Value.int IntKind.i64 b, Value.int IntKind.i8 c, Value.int IntKind.i64 f] 26)) = W1 at *
    obtain ⟨k0, k1, k2, k3⟩ := id hK.quad
    obtain ⟨l0, l1, l2, l3⟩ := id hL.quad
    have hX := Below.refl W1.heap.size W1
    have HA := Lib.hid (fun X (h : Below W1.heap.size W1 X) => callB hA h)
    have HB := Lib.hid (fun X (h : Below W1.heap.size W1 X) => callB hB h)
    clear hA hB
    go_wp2_with (first
      | (go_at_call 8; ((with_reducible refine (HA.out _ (bst hX (by go_grown))).mono ?_); rintro z w2 ⟨rfl, hk⟩; (try clear hX); have hX := hk; (try clear m0 m1 m2 m3); obtain ⟨m0, m1, m2, m3⟩ := (hK.below (by omega) hk).quad; (try clear n0 n1 n2 n3); obtain ⟨n0, n1, n2, n3⟩ := (hL.below (by omega) hk).quad; clear hk))
      | (go_at_call 8; ((with_reducible refine (HB.out _ (bst hX (by go_grown))).mono ?_); rintro z w2 ⟨rfl, hk⟩; (try clear hX); have hX := hk; (try clear m0 m1 m2 m3); obtain ⟨m0, m1, m2, m3⟩ := (hK.below (by omega) hk).quad; (try clear n0 n1 n2 n3); obtain ⟨n0, n1, n2, n3⟩ := (hL.below (by omega) hk).quad; clear hk)))
    go_ret
    exact ⟨rfl, hb.trans (hX.mono (by omega))⟩
/-- A run, if it is right. -/
def ckR (r : Ru) : Ru := if ruE r = 0 then r else ru0
set_option maxRecDepth 100000 in
theorem rcked_any (r : Ru) (w : World) : Calls Tryz.prog 44 #[V4 r] w fun x w' => x = .returned (.tuple #[V4 (ckR r), .int .i64 (ruE r)]) ∧ Below w.heap.size w w' := by
  have hA := fun X => rchk_any r X
  unfold ckR
  obtain ⟨i, d, j, e⟩ := r
  (try dsimp only at *)
  generalize ruE ⟨i, d, j, e⟩ = v at *
  by_cases hv : v = 0
  · subst hv
    rw [if_pos rfl]
    go_enter Tryz.func44, Tryz.ntmps44
    go_upto_region 1 with fail
    obtain ⟨hK, hM, hs, hb⟩ := run_two w i d j e 0 0 0 0 _ rfl
    generalize ((w.alloc (Obj.cells #[Value.int IntKind.i8 i, Value.int IntKind.i64 d, Value.int IntKind.i8 j, Value.int IntKind.i64 e] 26)).alloc (Obj.cells #[Value.int IntKind.i8 0, Value.int IntKind.i64 0, Value.int IntKind.i8 0, Value.int IntKind.i64 0] 26)) = W1 at *
    obtain ⟨k0, k1, k2, k3⟩ := id hK.quad
    have hX := Below.refl W1.heap.size W1
    have HA := Lib.hid (fun X (h : Below W1.heap.size W1 X) => callB hA h)
    clear hA
    go_wp2_with (go_at_call 8; ((with_reducible refine (HA.out _ (bst hX (by go_grown))).mono ?_); rintro z w2 ⟨rfl, hk⟩; (try clear hX); have hX := hk; (try clear m0 m1 m2 m3); obtain ⟨m0, m1, m2, m3⟩ := (hK.below (by omega) hk).quad; (try clear u0 u1 u2 u3 z0 z1 z2 z3 HM HB); have HM := Lib.hid (hM.below (by omega) hk); obtain ⟨u0, u1, u2, u3⟩ := HM.out.quad; have z0 := HM.out.frozen 0; have z1 := HM.out.frozen 1; have z2 := HM.out.frozen 2; have z3 := HM.out.frozen 3; have HB := Lib.hid (hb.trans (hk.mono (by omega))); clear hk))
    exact bodyPost_ret (res_run2 rfl rfl rfl (HM.out.store i d j e).quad) rfl ⟨rfl, set4_below HB.out (by omega) i d j e⟩
  · have hq : (v != 0) = true := by rw [bne_iff_ne]; exact hv
    rw [if_neg hv]
    clear hv
    unfold ru0
    (try dsimp only)
    go_enter Tryz.func44, Tryz.ntmps44
    go_upto_region 1 with fail
    obtain ⟨hK, hM, hs, hb⟩ := run_two w i d j e 0 0 0 0 _ rfl
    generalize ((w.alloc (Obj.cells #[Value.int IntKind.i8 i, Value.int IntKind.i64 d, Value.int IntKind.i8 j, Value.int IntKind.i64 e] 26)).alloc (Obj.cells #[Value.int IntKind.i8 0, Value.int IntKind.i64 0, Value.int IntKind.i8 0, Value.int IntKind.i64 0] 26)) = W1 at *
    obtain ⟨k0, k1, k2, k3⟩ := id hK.quad
    have hX := Below.refl W1.heap.size W1
    have HA := Lib.hid (fun X (h : Below W1.heap.size W1 X) => callB hA h)
    clear hA
    go_wp2_with (go_at_call 8; ((with_reducible refine (HA.out _ (bst hX (by go_grown))).mono ?_); rintro z w2 ⟨rfl, hk⟩; (try clear hX); have hX := hk; (try clear m0 m1 m2 m3); obtain ⟨m0, m1, m2, m3⟩ := (hK.below (by omega) hk).quad; (try clear u0 u1 u2 u3 z0 z1 z2 z3 HM HB); have HM := Lib.hid (hM.below (by omega) hk); obtain ⟨u0, u1, u2, u3⟩ := HM.out.quad; have z0 := HM.out.frozen 0; have z1 := HM.out.frozen 1; have z2 := HM.out.frozen 2; have z3 := HM.out.frozen 3; have HB := Lib.hid (hb.trans (hk.mono (by omega))); clear hk))
    exact bodyPost_ret (res_run2 rfl rfl rfl (HM.out.store 0 0 0 0).quad) rfl ⟨rfl, set4_below HB.out (by omega) 0 0 0 0⟩
theorem ofE_chk (lo hi : Int) : ruE ⟨0, lo, 0, hi⟩ = ofE lo hi ∧ ckR ⟨0, lo, 0, hi⟩ = ofR lo hi := by
  have h : ruE ⟨0, lo, 0, hi⟩ = ofE lo hi := by
    by_cases h : lo ≤ hi
    · have h1 : ¬ hi < lo := by omega
      by_cases h2 : lo < hi <;> simp [ruE, ofE, enE, enC, h, h1, h2]
    · have h1 : hi < lo := by omega
      have h2 : ¬ lo < hi := by omega
      simp [ruE, ofE, enE, enC, h, h1, h2]
  refine ⟨h, ?_⟩
  unfold ckR ofR
  rw [h]
  unfold ofE
  by_cases q : lo ≤ hi <;> simp [q]
set_option maxRecDepth 100000 in
theorem rof_any (lo hi : Int) (w : World) : Calls Tryz.prog 26 #[.int .i64 lo, .int .i64 hi] w fun x w' => x = .returned (.tuple #[V4 (ofR lo hi), .int .i64 (ofE lo hi)]) ∧ Below w.heap.size w w' := by
  have hA := fun X => kof_any lo X
  have hB := fun X => kof_any hi X
  have hC := fun X => rcked_any ⟨0, lo, 0, hi⟩ X
  rw [(ofE_chk lo hi).1, (ofE_chk lo hi).2] at hC
  generalize ofR lo hi = r at *
  generalize ofE lo hi = v at *
  obtain ⟨i, d, j, e⟩ := r
  (try dsimp only at *)
  go_enter Tryz.func26, Tryz.ntmps26
  go_upto_region 1 with fail
  obtain ⟨hM, hs, hb⟩ := run_new w 0 0 0 0 _ rfl
  generalize (w.alloc (Obj.cells #[Value.int IntKind.i8 0, Value.int IntKind.i64 0, Value.int IntKind.i8 0, Value.int IntKind.i64 0] 26)) = W1 at *
  have hX := Below.refl W1.heap.size W1
  have HA := Lib.hid (fun X (h : Below W1.heap.size W1 X) => callB hA h)
  have HC := Lib.hid (fun X (h : Below W1.heap.size W1 X) => callB hB h)
  have HD := Lib.hid (fun X (h : Below W1.heap.size W1 X) => callB hC h)
  clear hA hB hC
  go_wp2_with (first
    | (go_at_call 47; ((with_reducible refine (HA.out _ (bst hX (by go_grown))).mono ?_); rintro z w2 ⟨rfl, hk⟩; (try clear hX); have hX := hk; (try clear u0 u1 u2 u3 z0 z1 z2 z3 HM HB); have HM := Lib.hid (hM.below (by omega) hk); obtain ⟨u0, u1, u2, u3⟩ := HM.out.quad; have z0 := HM.out.frozen 0; have z1 := HM.out.frozen 1; have z2 := HM.out.frozen 2; have z3 := HM.out.frozen 3; have HB := Lib.hid (hb.trans (hk.mono (by omega))); clear hk))
    | (go_at_call 47; ((with_reducible refine (HC.out _ (bst hX (by go_grown))).mono ?_); rintro z w2 ⟨rfl, hk⟩; (try clear hX); have hX := hk; (try clear u0 u1 u2 u3 z0 z1 z2 z3 HM HB); have HM := Lib.hid (hM.below (by omega) hk); obtain ⟨u0, u1, u2, u3⟩ := HM.out.quad; have z0 := HM.out.frozen 0; have z1 := HM.out.frozen 1; have z2 := HM.out.frozen 2; have z3 := HM.out.frozen 3; have HB := Lib.hid (hb.trans (hk.mono (by omega))); clear hk))
    | (go_at_call 44; ((with_reducible refine (HD.out _ (bst hX (by go_grown))).mono ?_); rintro z w2 ⟨rfl, hk⟩; (try clear hX); have hX := hk; (try clear u0 u1 u2 u3 z0 z1 z2 z3 HM HB); have HM := Lib.hid (hM.below (by omega) hk); obtain ⟨u0, u1, u2, u3⟩ := HM.out.quad; have z0 := HM.out.frozen 0; have z1 := HM.out.frozen 1; have z2 := HM.out.frozen 2; have z3 := HM.out.frozen 3; have HB := Lib.hid (hb.trans (hk.mono (by omega))); clear hk)))
  exact bodyPost_ret (res_run2 rfl rfl rfl (HM.out.store i d j e).quad) rfl ⟨rfl, set4_below HB.out (by omega) i d j e⟩
theorem span_eq (a b : Ru) : (⟨mnV a.i a.d b.i b.d a.i b.i, mnV a.i a.d b.i b.d a.d b.d, mxV a.j a.e b.j b.e a.j b.j, mxV a.j a.e b.j b.e a.e b.e⟩ : Ru) = ruJ a b := by
  unfold mnV mxV ruJ
  rw [enC_anti a.i a.d b.i b.d, enC_anti a.j a.e b.j b.e]
  generalize enC a.i a.d b.i b.d = p
  generalize enC a.j a.e b.j b.e = q
  apply Ru.eq <;> dsimp only <;> split <;> split <;> omega
theorem over_eq (a b : Ru) : (⟨mxV a.i a.d b.i b.d a.i b.i, mxV a.i a.d b.i b.d a.d b.d, mnV a.j a.e b.j b.e a.j b.j, mnV a.j a.e b.j b.e a.e b.e⟩ : Ru) = ruK a b := by
  unfold mnV mxV ruK
  rw [enC_anti a.i a.d b.i b.d, enC_anti a.j a.e b.j b.e]
  generalize enC a.i a.d b.i b.d = p
  generalize enC a.j a.e b.j b.e = q
  apply Ru.eq <;> dsimp only <;> split <;> split <;> omega
set_option maxRecDepth 100000 in
theorem rspan_any (a b : Ru) (w : World) : Calls Tryz.prog 42 #[V4 a, V4 b] w fun x w' => x = .returned (V4 (ruJ a b)) ∧ Below w.heap.size w w' := by
  have hA := fun X => kmin_any a.i a.d b.i b.d X
  have hB := fun X => kmax_any a.j a.e b.j b.e X
  rw [← span_eq a b]
  generalize mnV a.i a.d b.i b.d a.i b.i = r1 at *
  generalize mnV a.i a.d b.i b.d a.d b.d = r2 at *
  generalize mxV a.j a.e b.j b.e a.j b.j = r3 at *
  generalize mxV a.j a.e b.j b.e a.e b.e = r4 at *
  obtain ⟨i, d, j, e⟩ := a
  obtain ⟨a, b, c, f⟩ := b
  (try dsimp only at *)
  go_enter Tryz.func42, Tryz.ntmps42
  go_upto_region 1 with fail
  obtain ⟨hK, hL, hM, hs, hb⟩ := run_three w i d j e a b c f 0 0 0 0 _ rfl
  generalize (((w.alloc (Obj.cells #[Value.int IntKind.i8 i, Value.int IntKind.i64 d, Value.int IntKind.i8 j, Value.int IntKind.i64 e] 26)).alloc (Obj.cells #[Value.int IntKind.i8 a, Value.int IntKind.i64 b, Value.int IntKind.i8 c, Value.int IntKind.i64 f] 26)).alloc (Obj.cells #[Value.int IntKind.i8 0, Value.int IntKind.i64 0, Value.int IntKind.i8 0, Value.int IntKind.i64 0] 26)) = W1 at *
  have hg1 : w.heap.size + 1 + 1 < W1.heap.size := by omega
  have HF := Lib.hid (fun X (h : Kp W1 w.heap.size [w.heap.size, w.heap.size + 1] X) => And.intro (h.run (by simp) hK).quad (h.run (by simp) hL).quad)
  have HA := Lib.hid (fun X (h : Kp W1 w.heap.size [w.heap.size, w.heap.size + 1] X) => callK (by omega) hA h)
  have HC := Lib.hid (fun X (h : Kp W1 w.heap.size [w.heap.size, w.heap.size + 1] X) => callK (by omega) hB h)
  have hX : Kp W1 w.heap.size [w.heap.size, w.heap.size + 1] W1.drew := (Kp.start (by simp; omega)).step (by omega) (by go_grown)
  clear hA hB hK hL
  refine wp_region_G (S := Kp W1 w.heap.size [w.heap.size, w.heap.size + 1]) (by kernel_rfl) growsB (hX) ?_
  refine tG (i := 0) (o := ?o0) (v := ?v0) growsB ?i0 (by kernel_rfl) ?q0 ?y0 ?r0
  case i0 => (simp only [gA, gZ]; rfl)
  case q0 => exact fun _ _ _ h => h
  case y0 => exact .inl ⟨by rfl, by (intro w hSw; obtain ⟨⟨k0, k1, k2, k3⟩, ⟨l0, l1, l2, l3⟩⟩ := HF.out w hSw; go_simp; try with_reducible rfl)⟩
  (try simp only [Act.put, pA, pZ, pS])
  refine tG (i := 1) (o := ?o1) (v := ?v1) growsB ?i1 (by kernel_rfl) ?q1 ?y1 ?r1
  case i1 => (simp only [gA, gS, gZ]; rfl)
  case q1 => exact fun _ _ _ h => h
  case y1 => exact .inl ⟨by rfl, by (intro w hSw; obtain ⟨⟨k0, k1, k2, k3⟩, ⟨l0, l1, l2, l3⟩⟩ := HF.out w hSw; go_simp; try with_reducible rfl)⟩
  (try simp only [Act.put, pA, pZ, pS])
  refine tG (i := 2) (o := ?o2) (v := ?v2) growsB ?i2 (by kernel_rfl) ?q2 ?y2 ?r2
  case i2 => (simp only [gA, gS, gZ]; rfl)
  case q2 => exact fun _ _ _ h => h
  case y2 => exact .inl ⟨by rfl, by (intro w hSw; obtain ⟨⟨k0, k1, k2, k3⟩, ⟨l0, l1, l2, l3⟩⟩ := HF.out w hSw; go_simp; try with_reducible rfl)⟩
  (try simp only [Act.put, pA, pZ, pS])
  refine tG (i := 3) (o := ?o3) (v := ?v3) growsB ?i3 (by kernel_rfl) ?q3 ?y3 ?r3
  case i3 => (simp only [gA, gS, gZ]; rfl)
  case q3 => exact fun _ _ _ h => h
  case y3 => exact .inl ⟨by rfl, by (intro w hSw; obtain ⟨⟨k0, k1, k2, k3⟩, ⟨l0, l1, l2, l3⟩⟩ := HF.out w hSw; go_simp; try with_reducible rfl)⟩
  (try simp only [Act.put, pA, pZ, pS])
  refine cG (i := 4) (o := ?o4) growsB ?i4 (by kernel_rfl) ?q4 ?w4 ?e4 HA.out ?r4
  case i4 => (simp only [gA, gS, gZ]; rfl)
  case q4 => exact fun _ _ _ h => h
  case w4 => rfl
  case e4 => (intro w; go_simp; try with_reducible rfl)
  (try simp only [Act.put, pA, pZ, pS])
  refine tG (i := 5) (o := ?o5) (v := ?v5) growsB ?i5 (by kernel_rfl) ?q5 ?y5 ?r5
  case i5 => (simp only [gA, gS, gZ]; rfl)
  case q5 => exact fun _ _ _ h => h
  case y5 => exact .inl ⟨by rfl, by (intro w hSw; obtain ⟨⟨k0, k1, k2, k3⟩, ⟨l0, l1, l2, l3⟩⟩ := HF.out w hSw; go_simp; try with_reducible rfl)⟩
  (try simp only [Act.put, pA, pZ, pS])
  refine tG (i := 6) (o := ?o6) (v := ?v6) growsB ?i6 (by kernel_rfl) ?q6 ?y6 ?r6
  case i6 => (simp only [gA, gS, gZ]; rfl)
  case q6 => exact fun _ _ _ h => h
  case y6 => exact .inl ⟨by rfl, by (intro w hSw; obtain ⟨⟨k0, k1, k2, k3⟩, ⟨l0, l1, l2, l3⟩⟩ := HF.out w hSw; go_simp; try with_reducible rfl)⟩
  (try simp only [Act.put, pA, pZ, pS])
  refine tG (i := 7) (o := ?o7) (v := ?v7) growsB ?i7 (by kernel_rfl) ?q7 ?y7 ?r7
  case i7 => (simp only [gA, gS, gZ]; rfl)
  case q7 => exact fun _ _ _ h => h
  case y7 => exact .inl ⟨by rfl, by (intro w hSw; obtain ⟨⟨k0, k1, k2, k3⟩, ⟨l0, l1, l2, l3⟩⟩ := HF.out w hSw; go_simp; try with_reducible rfl)⟩
  (try simp only [Act.put, pA, pZ, pS])
  refine tG (i := 8) (o := ?o8) (v := ?v8) growsB ?i8 (by kernel_rfl) ?q8 ?y8 ?r8
  case i8 => (simp only [gA, gS, gZ]; rfl)
  case q8 => exact fun _ _ _ h => h
  case y8 => exact .inl ⟨by rfl, by (intro w hSw; obtain ⟨⟨k0, k1, k2, k3⟩, ⟨l0, l1, l2, l3⟩⟩ := HF.out w hSw; go_simp; try with_reducible rfl)⟩
  (try simp only [Act.put, pA, pZ, pS])
  refine cG (i := 9) (o := ?o9) growsB ?i9 (by kernel_rfl) ?q9 ?w9 ?e9 HC.out ?r9
  case i9 => (simp only [gA, gS, gZ]; rfl)
  case q9 => exact fun _ _ _ h => h
  case w9 => rfl
  case e9 => (intro w; go_simp; try with_reducible rfl)
  (try simp only [Act.put, pA, pZ, pS])
  refine tG (i := 10) (o := ?o10) (v := ?v10) growsB ?i10 (by kernel_rfl) ?q10 ?y10 ?r10
  case i10 => (simp only [gA, gS, gZ]; rfl)
  case q10 => exact fun _ _ _ h => h
  case y10 => exact .inl ⟨by rfl, by (intro w hSw; obtain ⟨⟨k0, k1, k2, k3⟩, ⟨l0, l1, l2, l3⟩⟩ := HF.out w hSw; go_simp; try with_reducible rfl)⟩
  (try simp only [Act.put, pA, pZ, pS])
  refine wpAnyG_ready (rs := [11]) (by kernel_rfl) (by simp) ?_
  (try clear hX)
  intro w9 hX hT
  refine AllReadyG.cons (o := ?oi11) ?ho11 ?hK11 AllReadyG.nil
  case ho11 => (simp only [List.getElem?_toArray, List.getElem?_cons_succ, List.getElem?_cons_zero]; rfl)
  intro KK hKK
  have hM2 := hM.below (by omega) (bst (show Below W1.heap.size W1 W1.drew from by go_grown) hT)
  obtain ⟨u0, u1, u2, u3⟩ := id hM2.quad
  have z0 := hM2.frozen 0
  have z1 := hM2.frozen 1
  have z2 := hM2.frozen 2
  have z3 := hM2.frozen 3
  have hM3 := hM2.store r1 r2 r3 r4
  have hX3 := hX.set4 (g := w.heap.size + 1 + 1) (by omega) (by simp; omega) r1 r2 r3 r4
  have hs3 := size_set4 w9 (w.heap.size + 1 + 1) r1 r2 r3 r4
  go_simp
  change KK _ (set4 w9 (w.heap.size + 1 + 1) r1 r2 r3 r4)
  refine hKK.out _ _ hX3 (fun _ => ?_)
  clear u0 u1 u2 u3 z0 z1 z2 z3 hX
  have hsz : W1.heap.size ≤ w9.heap.size := hT.size
  clear hT hM2
  generalize set4 w9 (w.heap.size + 1 + 1) r1 r2 r3 r4 = W3 at *
  clear hKK KK
  (try simp only [Act.put, List.setIfInBounds_toArray, List.set_cons_zero, List.set_cons_succ])
  refine wpAnyG_done (by kernel_rfl) ?_ _
  (try clear hX)
  intro w10 hX hT
  go_wp2
  exact bodyPost_ret (res_run1 rfl rfl (hM3.below (by rw [hs3]; omega) hT).quad) rfl ⟨rfl, hb.trans (hX.low.mono (by omega))⟩
set_option maxRecDepth 100000 in
theorem rover_any (a b : Ru) (w : World) : Calls Tryz.prog 45 #[V4 a, V4 b] w fun x w' => x = .returned (V4 (ruK a b)) ∧ Below w.heap.size w w' := by
  have hA := fun X => kmax_any a.i a.d b.i b.d X
  have hB := fun X => kmin_any a.j a.e b.j b.e X
  rw [← over_eq a b]
  generalize mxV a.i a.d b.i b.d a.i b.i = r1 at *
  generalize mxV a.i a.d b.i b.d a.d b.d = r2 at *
  generalize mnV a.j a.e b.j b.e a.j b.j = r3 at *
  generalize mnV a.j a.e b.j b.e a.e b.e = r4 at *
  obtain ⟨i, d, j, e⟩ := a
  obtain ⟨a, b, c, f⟩ := b
  (try dsimp only at *)
  go_enter Tryz.func45, Tryz.ntmps45
  go_upto_region 1 with fail
  obtain ⟨hK, hL, hM, hs, hb⟩ := run_three w i d j e a b c f 0 0 0 0 _ rfl
  generalize (((w.alloc (Obj.cells #[Value.int IntKind.i8 i, Value.int IntKind.i64 d, Value.int IntKind.i8 j, Value.int IntKind.i64 e] 26)).alloc (Obj.cells #[Value.int IntKind.i8 a, Value.int IntKind.i64 b, Value.int IntKind.i8 c, Value.int IntKind.i64 f] 26)).alloc (Obj.cells #[Value.int IntKind.i8 0, Value.int IntKind.i64 0, Value.int IntKind.i8 0, Value.int IntKind.i64 0] 26)) = W1 at *
  have hg1 : w.heap.size + 1 + 1 < W1.heap.size := by omega
  have HF := Lib.hid (fun X (h : Kp W1 w.heap.size [w.heap.size, w.heap.size + 1] X) => And.intro (h.run (by simp) hK).quad (h.run (by simp) hL).quad)
  have HA := Lib.hid (fun X (h : Kp W1 w.heap.size [w.heap.size, w.heap.size + 1] X) => callK (by omega) hA h)
  have HC := Lib.hid (fun X (h : Kp W1 w.heap.size [w.heap.size, w.heap.size + 1] X) => callK (by omega) hB h)
  have hX : Kp W1 w.heap.size [w.heap.size, w.heap.size + 1] W1.drew := (Kp.start (by simp; omega)).step (by omega) (by go_grown)
  clear hA hB hK hL
  refine wp_region_G (S := Kp W1 w.heap.size [w.heap.size, w.heap.size + 1]) (by kernel_rfl) growsB (hX) ?_
  refine tG (i := 0) (o := ?o0) (v := ?v0) growsB ?i0 (by kernel_rfl) ?q0 ?y0 ?r0
  case i0 => (simp only [gA, gZ]; rfl)
  case q0 => exact fun _ _ _ h => h
  case y0 => exact .inl ⟨by rfl, by (intro w hSw; obtain ⟨⟨k0, k1, k2, k3⟩, ⟨l0, l1, l2, l3⟩⟩ := HF.out w hSw; go_simp; try with_reducible rfl)⟩
  (try simp only [Act.put, pA, pZ, pS])
  refine tG (i := 1) (o := ?o1) (v := ?v1) growsB ?i1 (by kernel_rfl) ?q1 ?y1 ?r1
  case i1 => (simp only [gA, gS, gZ]; rfl)
  case q1 => exact fun _ _ _ h => h
  case y1 => exact .inl ⟨by rfl, by (intro w hSw; obtain ⟨⟨k0, k1, k2, k3⟩, ⟨l0, l1, l2, l3⟩⟩ := HF.out w hSw; go_simp; try with_reducible rfl)⟩
  (try simp only [Act.put, pA, pZ, pS])
  refine tG (i := 2) (o := ?o2) (v := ?v2) growsB ?i2 (by kernel_rfl) ?q2 ?y2 ?r2
  case i2 => (simp only [gA, gS, gZ]; rfl)
  case q2 => exact fun _ _ _ h => h
  case y2 => exact .inl ⟨by rfl, by (intro w hSw; obtain ⟨⟨k0, k1, k2, k3⟩, ⟨l0, l1, l2, l3⟩⟩ := HF.out w hSw; go_simp; try with_reducible rfl)⟩
  (try simp only [Act.put, pA, pZ, pS])
  refine tG (i := 3) (o := ?o3) (v := ?v3) growsB ?i3 (by kernel_rfl) ?q3 ?y3 ?r3
  case i3 => (simp only [gA, gS, gZ]; rfl)
  case q3 => exact fun _ _ _ h => h
  case y3 => exact .inl ⟨by rfl, by (intro w hSw; obtain ⟨⟨k0, k1, k2, k3⟩, ⟨l0, l1, l2, l3⟩⟩ := HF.out w hSw; go_simp; try with_reducible rfl)⟩
  (try simp only [Act.put, pA, pZ, pS])
  refine cG (i := 4) (o := ?o4) growsB ?i4 (by kernel_rfl) ?q4 ?w4 ?e4 HA.out ?r4
  case i4 => (simp only [gA, gS, gZ]; rfl)
  case q4 => exact fun _ _ _ h => h
  case w4 => rfl
  case e4 => (intro w; go_simp; try with_reducible rfl)
  (try simp only [Act.put, pA, pZ, pS])
  refine tG (i := 5) (o := ?o5) (v := ?v5) growsB ?i5 (by kernel_rfl) ?q5 ?y5 ?r5
  case i5 => (simp only [gA, gS, gZ]; rfl)
  case q5 => exact fun _ _ _ h => h
  case y5 => exact .inl ⟨by rfl, by (intro w hSw; obtain ⟨⟨k0, k1, k2, k3⟩, ⟨l0, l1, l2, l3⟩⟩ := HF.out w hSw; go_simp; try with_reducible rfl)⟩
  (try simp only [Act.put, pA, pZ, pS])
  refine tG (i := 6) (o := ?o6) (v := ?v6) growsB ?i6 (by kernel_rfl) ?q6 ?y6 ?r6
  case i6 => (simp only [gA, gS, gZ]; rfl)
  case q6 => exact fun _ _ _ h => h
  case y6 => exact .inl ⟨by rfl, by (intro w hSw; obtain ⟨⟨k0, k1, k2, k3⟩, ⟨l0, l1, l2, l3⟩⟩ := HF.out w hSw; go_simp; try with_reducible rfl)⟩
  (try simp only [Act.put, pA, pZ, pS])
  refine tG (i := 7) (o := ?o7) (v := ?v7) growsB ?i7 (by kernel_rfl) ?q7 ?y7 ?r7
  case i7 => (simp only [gA, gS, gZ]; rfl)
  case q7 => exact fun _ _ _ h => h
  case y7 => exact .inl ⟨by rfl, by (intro w hSw; obtain ⟨⟨k0, k1, k2, k3⟩, ⟨l0, l1, l2, l3⟩⟩ := HF.out w hSw; go_simp; try with_reducible rfl)⟩
  (try simp only [Act.put, pA, pZ, pS])
  refine tG (i := 8) (o := ?o8) (v := ?v8) growsB ?i8 (by kernel_rfl) ?q8 ?y8 ?r8
  case i8 => (simp only [gA, gS, gZ]; rfl)
  case q8 => exact fun _ _ _ h => h
  case y8 => exact .inl ⟨by rfl, by (intro w hSw; obtain ⟨⟨k0, k1, k2, k3⟩, ⟨l0, l1, l2, l3⟩⟩ := HF.out w hSw; go_simp; try with_reducible rfl)⟩
  (try simp only [Act.put, pA, pZ, pS])
  refine cG (i := 9) (o := ?o9) growsB ?i9 (by kernel_rfl) ?q9 ?w9 ?e9 HC.out ?r9
  case i9 => (simp only [gA, gS, gZ]; rfl)
  case q9 => exact fun _ _ _ h => h
  case w9 => rfl
  case e9 => (intro w; go_simp; try with_reducible rfl)
  (try simp only [Act.put, pA, pZ, pS])
  refine tG (i := 10) (o := ?o10) (v := ?v10) growsB ?i10 (by kernel_rfl) ?q10 ?y10 ?r10
  case i10 => (simp only [gA, gS, gZ]; rfl)
  case q10 => exact fun _ _ _ h => h
  case y10 => exact .inl ⟨by rfl, by (intro w hSw; obtain ⟨⟨k0, k1, k2, k3⟩, ⟨l0, l1, l2, l3⟩⟩ := HF.out w hSw; go_simp; try with_reducible rfl)⟩
  (try simp only [Act.put, pA, pZ, pS])
  refine wpAnyG_ready (rs := [11]) (by kernel_rfl) (by simp) ?_
  (try clear hX)
  intro w9 hX hT
  refine AllReadyG.cons (o := ?oi11) ?ho11 ?hK11 AllReadyG.nil
  case ho11 => (simp only [List.getElem?_toArray, List.getElem?_cons_succ, List.getElem?_cons_zero]; rfl)
  intro KK hKK
  have hM2 := hM.below (by omega) (bst (show Below W1.heap.size W1 W1.drew from by go_grown) hT)
  obtain ⟨u0, u1, u2, u3⟩ := id hM2.quad
  have z0 := hM2.frozen 0
  have z1 := hM2.frozen 1
  have z2 := hM2.frozen 2
  have z3 := hM2.frozen 3
  have hM3 := hM2.store r1 r2 r3 r4
  have hX3 := hX.set4 (g := w.heap.size + 1 + 1) (by omega) (by simp; omega) r1 r2 r3 r4
  have hs3 := size_set4 w9 (w.heap.size + 1 + 1) r1 r2 r3 r4
  go_simp
  change KK _ (set4 w9 (w.heap.size + 1 + 1) r1 r2 r3 r4)
  refine hKK.out _ _ hX3 (fun _ => ?_)
  clear u0 u1 u2 u3 z0 z1 z2 z3 hX
  have hsz : W1.heap.size ≤ w9.heap.size := hT.size
  clear hT hM2
  generalize set4 w9 (w.heap.size + 1 + 1) r1 r2 r3 r4 = W3 at *
  clear hKK KK
  (try simp only [Act.put, List.setIfInBounds_toArray, List.set_cons_zero, List.set_cons_succ])
  refine wpAnyG_done (by kernel_rfl) ?_ _
  (try clear hX)
  intro w10 hX hT
  go_wp2
  exact bodyPost_ret (res_run1 rfl rfl (hM3.below (by rw [hs3]; omega) hT).quad) rfl ⟨rfl, hb.trans (hX.low.mono (by omega))⟩
theorem cmp_eq (a b : Ru) : ruC a b = orV (enC a.i a.d b.i b.d) (enC a.j a.e b.j b.e) := by
  have h1 := enC_lt a.i a.d b.i b.d
  have h2 := enC_gt a.i a.d b.i b.d
  unfold ruC orV
  by_cases h : a.i = b.i ∧ a.d = b.d
  · rw [if_pos h, if_pos (by omega)]
  · rw [if_neg h, if_neg (by omega)]
set_option maxRecDepth 100000 in
theorem rcmp_any (a b : Ru) (w : World) : Calls Tryz.prog 9 #[V4 a, V4 b] w fun x w' => x = .returned (.int .i64 (ruC a b)) ∧ Below w.heap.size w w' := by
  have hA := fun X => kcomp_any a.i a.d b.i b.d X
  have hB := fun X => kcomp_any a.j a.e b.j b.e X
  rw [cmp_eq a b]
  generalize enC a.i a.d b.i b.d = e1 at *
  generalize enC a.j a.e b.j b.e = e2 at *
  have hO := fun (g : Nat) (X : World) h0 h1 => kor_any g e1 e2 X h0 h1
  generalize orV e1 e2 = v at *
  obtain ⟨i, d, j, e⟩ := a
  obtain ⟨a, b, c, f⟩ := b
  (try dsimp only at *)
  go_enter Tryz.func9, Tryz.ntmps9
  go_upto_region 1 with fail
  obtain ⟨hK, hL, hs, hb⟩ := run_two w i d j e a b c f _ rfl
  generalize ((w.alloc (Obj.cells #[Value.int IntKind.i8 i, Value.int IntKind.i64 d, Value.int IntKind.i8 j, Value.int IntKind.i64 e] 26)).alloc (Obj.cells #[Value.int IntKind.i8 a, Value.int IntKind.i64 b, Value.int IntKind.i8 c, Value.int IntKind.i64 f] 26)) = W1 at *
  obtain ⟨k0, k1, k2, k3⟩ := id hK.quad
  obtain ⟨l0, l1, l2, l3⟩ := id hL.quad
  have HF := Lib.hid (fun X (h : Below W1.heap.size W1 X) => And.intro (hK.below (by omega) h).quad (hL.below (by omega) h).quad)
  have HA := Lib.hid (fun X (h : Below W1.heap.size W1 X) => callG hA h)
  have HC := Lib.hid (fun X (h : Below W1.heap.size W1 X) => callG hB h)
  have HO := Lib.hid hO
  have hX : Below W1.heap.size W1 W1.drew := by go_grown
  clear hA hB hK hL hO k0 k1 k2 k3 l0 l1 l2 l3
  refine wp_region_G (S := fun X => Below W1.heap.size W1 X) (by kernel_rfl) growsB (hX) ?_
  refine tG (i := 0) (o := ?o0) (v := ?v0) growsB ?i0 (by kernel_rfl) ?q0 ?y0 ?r0
  case i0 => (simp only [gA, gZ]; rfl)
  case q0 => exact fun _ _ _ h => h
  case y0 => exact .inl ⟨by rfl, by (intro w hSw; obtain ⟨⟨k0, k1, k2, k3⟩, ⟨l0, l1, l2, l3⟩⟩ := HF.out w hSw; go_simp; try with_reducible rfl)⟩
  (try simp only [Act.put, pA, pZ, pS])
  refine tG (i := 1) (o := ?o1) (v := ?v1) growsB ?i1 (by kernel_rfl) ?q1 ?y1 ?r1
  case i1 => (simp only [gA, gS, gZ]; rfl)
  case q1 => exact fun _ _ _ h => h
  case y1 => exact .inl ⟨by rfl, by (intro w hSw; obtain ⟨⟨k0, k1, k2, k3⟩, ⟨l0, l1, l2, l3⟩⟩ := HF.out w hSw; go_simp; try with_reducible rfl)⟩
  (try simp only [Act.put, pA, pZ, pS])
  refine tG (i := 2) (o := ?o2) (v := ?v2) growsB ?i2 (by kernel_rfl) ?q2 ?y2 ?r2
  case i2 => (simp only [gA, gS, gZ]; rfl)
  case q2 => exact fun _ _ _ h => h
  case y2 => exact .inl ⟨by rfl, by (intro w hSw; obtain ⟨⟨k0, k1, k2, k3⟩, ⟨l0, l1, l2, l3⟩⟩ := HF.out w hSw; go_simp; try with_reducible rfl)⟩
  (try simp only [Act.put, pA, pZ, pS])
  refine tG (i := 3) (o := ?o3) (v := ?v3) growsB ?i3 (by kernel_rfl) ?q3 ?y3 ?r3
  case i3 => (simp only [gA, gS, gZ]; rfl)
  case q3 => exact fun _ _ _ h => h
  case y3 => exact .inl ⟨by rfl, by (intro w hSw; obtain ⟨⟨k0, k1, k2, k3⟩, ⟨l0, l1, l2, l3⟩⟩ := HF.out w hSw; go_simp; try with_reducible rfl)⟩
  (try simp only [Act.put, pA, pZ, pS])
  refine cG (i := 4) (o := ?o4) growsB ?i4 (by kernel_rfl) ?q4 ?w4 ?e4 HA.out ?r4
  case i4 => (simp only [gA, gS, gZ]; rfl)
  case q4 => exact fun _ _ _ h => h
  case w4 => rfl
  case e4 => (intro w; go_simp; try with_reducible rfl)
  (try simp only [Act.put, pA, pZ, pS])
  refine tG (i := 5) (o := ?o5) (v := ?v5) growsB ?i5 (by kernel_rfl) ?q5 ?y5 ?r5
  case i5 => (simp only [gA, gS, gZ]; rfl)
  case q5 => exact fun _ _ _ h => h
  case y5 => exact .inl ⟨by rfl, by (intro w hSw; obtain ⟨⟨k0, k1, k2, k3⟩, ⟨l0, l1, l2, l3⟩⟩ := HF.out w hSw; go_simp; try with_reducible rfl)⟩
  (try simp only [Act.put, pA, pZ, pS])
  refine tG (i := 6) (o := ?o6) (v := ?v6) growsB ?i6 (by kernel_rfl) ?q6 ?y6 ?r6
  case i6 => (simp only [gA, gS, gZ]; rfl)
  case q6 => exact fun _ _ _ h => h
  case y6 => exact .inl ⟨by rfl, by (intro w hSw; obtain ⟨⟨k0, k1, k2, k3⟩, ⟨l0, l1, l2, l3⟩⟩ := HF.out w hSw; go_simp; try with_reducible rfl)⟩
  (try simp only [Act.put, pA, pZ, pS])
  refine tG (i := 7) (o := ?o7) (v := ?v7) growsB ?i7 (by kernel_rfl) ?q7 ?y7 ?r7
  case i7 => (simp only [gA, gS, gZ]; rfl)
  case q7 => exact fun _ _ _ h => h
  case y7 => exact .inl ⟨by rfl, by (intro w hSw; obtain ⟨⟨k0, k1, k2, k3⟩, ⟨l0, l1, l2, l3⟩⟩ := HF.out w hSw; go_simp; try with_reducible rfl)⟩
  (try simp only [Act.put, pA, pZ, pS])
  refine tG (i := 8) (o := ?o8) (v := ?v8) growsB ?i8 (by kernel_rfl) ?q8 ?y8 ?r8
  case i8 => (simp only [gA, gS, gZ]; rfl)
  case q8 => exact fun _ _ _ h => h
  case y8 => exact .inl ⟨by rfl, by (intro w hSw; obtain ⟨⟨k0, k1, k2, k3⟩, ⟨l0, l1, l2, l3⟩⟩ := HF.out w hSw; go_simp; try with_reducible rfl)⟩
  (try simp only [Act.put, pA, pZ, pS])
  refine cG (i := 9) (o := ?o9) growsB ?i9 (by kernel_rfl) ?q9 ?w9 ?e9 HC.out ?r9
  case i9 => (simp only [gA, gS, gZ]; rfl)
  case q9 => exact fun _ _ _ h => h
  case w9 => rfl
  case e9 => (intro w; go_simp; try with_reducible rfl)
  (try simp only [Act.put, pA, pZ, pS])
  refine wpAnyG_ready (rs := [10]) (by kernel_rfl) (by simp) ?_
  (try clear hX)
  intro w9 hX hT
  refine AllReadyG.cons (o := ?oi10) ?ho10 ?hK10 AllReadyG.nil
  case ho10 => (simp only [List.getElem?_toArray, List.getElem?_cons_succ, List.getElem?_cons_zero]; rfl)
  intro KK hKK
  have hX3 := hX.trans ((show Below w9.heap.size w9 (w9.alloc (.cells #[.int .i64 e1, .int .i64 e2] 3)) from by go_grown).mono hX.size)
  have hN := heap_alloc_new w9 (.cells #[.int .i64 e1, .int .i64 e2] 3)
  have hs3 : w9.heap.size < (w9.alloc (.cells #[.int .i64 e1, .int .i64 e2] 3)).heap.size := by simp
  go_simp
  refine hKK.out _ _ hX3 (fun _ => ?_)
  clear hX hT
  generalize (w9.alloc (Obj.cells #[Value.int IntKind.i64 e1, Value.int IntKind.i64 e2] 3)) = W3 at *
  generalize w9.heap.size = gs at *
  clear hKK KK
  (try simp only [Act.put, List.setIfInBounds_toArray, List.set_cons_zero, List.set_cons_succ])
  refine wpAnyG_ready (rs := [11]) (by kernel_rfl) (by simp) ?_
  (try clear hX)
  intro w9 hX hT
  refine AllReadyG.cons (o := ?oi11) ?ho11 ?hK11 AllReadyG.nil
  case ho11 => (simp only [List.getElem?_toArray, List.getElem?_cons_succ, List.getElem?_cons_zero]; rfl)
  intro KK hKK
  have hN2 := ((show Below W3.heap.size W3 w9 from hT).block gs hs3).trans hN
  go_simp
  (go_at_call 39; ((with_reducible refine (HO.out _ _ (cell_of_row _ _ 0 _ _ _ hN2) (cell_of_row _ _ 1 _ _ _ hN2)).mono ?_); rintro z w3 ⟨rfl, rfl⟩))
  (try go_wp2_with fail)
  refine hKK.out _ _ hX (fun _ => ?_)
  clear hKK KK
  (try simp only [Act.put, List.setIfInBounds_toArray, List.set_cons_zero, List.set_cons_succ])
  refine tG (i := 12) (o := ?o12) (v := ?v12) growsB ?i12 (by kernel_rfl) ?q12 ?y12 ?r12
  case i12 => (simp only [gA, gS, gZ]; rfl)
  case q12 => exact fun _ _ _ h => h
  case y12 => exact .inl ⟨by rfl, by (intro w hSw; obtain ⟨⟨k0, k1, k2, k3⟩, ⟨l0, l1, l2, l3⟩⟩ := HF.out w hSw; go_simp; try with_reducible rfl)⟩
  (try simp only [Act.put, pA, pZ, pS])
  refine wpAnyG_done (by kernel_rfl) ?_ _
  (try clear hX)
  intro w10 hX hT
  go_wp2
  go_ret
  exact ⟨rfl, hb.trans (hX.mono (by omega))⟩
end Go.Proofs.YtmbaohjekeiphaaGreatDoor
/- The functions of package runs, for the landed code: Within, Has, Touch, Join, Common, Len. -/
namespace Go.Proofs.YtmbaohjekeiphaaGreatDoor
open Go.RowKit

theorem okU_iff (a b : Ru) : okU a b = true ↔ ruE a = 0 ∧ ruE b = 0 := by unfold okU; rw [Bool.and_eq_true, beq_iff_eq, beq_iff_eq]
theorem ruEq_iff (a b : Ru) : ruEq a b = true ↔ (a.i = b.i ∧ a.d = b.d) ∧ a.j = b.j ∧ a.e = b.e := by unfold ruEq; simp only [Bool.and_eq_true, beq_iff_eq]
theorem wit_eq (a b : Ru) : (okU a b && ruEq (ruJ a b) b) = wiB a b := by
  unfold wiB ruW
  cases h : okU a b
  · rfl
  · obtain ⟨ha, hb⟩ := (okU_iff a b).1 h
    have a1 := ruE_right ha
    have b1 := ruE_right hb
    rw [Bool.true_and, Bool.true_and]
    cases q : ruEq (ruJ a b) b
    · rw [Bool.and_false]
    · rw [Bool.and_true, eq_comm, ruOv_iff, ruBeg_iff, ruBeg_iff]
      rw [ruEq_iff] at q
      unfold ruJ at q
      simp only [enC_lt, enC_gt] at q
      obtain ⟨⟨q1, q2⟩, q3, q4⟩ := q
      clear ha hb h
      split at q1 <;> rename_i p1
      · rw [if_pos p1] at q2
        split at q3 <;> rename_i p2
        · rw [if_pos p2] at q4; omega
        · rw [if_neg p2] at q4; omega
      · rw [if_neg p1] at q2
        split at q3 <;> rename_i p2
        · rw [if_pos p2] at q4; omega
        · rw [if_neg p2] at q4; omega
theorem has_eq (a : Ru) (n : Int) : wiB ⟨0, n, 0, n⟩ a = haB a n := by
  have h0 : ruE ⟨0, n, 0, n⟩ = 0 := (Right.days n n (Int.le_refl _)).of
  unfold haB
  rw [← wit_eq]
  cases h : (ruE a == 0)
  · have : okU ⟨0, n, 0, n⟩ a = false := by unfold okU; rw [h, Bool.and_false]
    rw [this]; rfl
  · have hk : okU ⟨0, n, 0, n⟩ a = true := (okU_iff _ _).2 ⟨h0, beq_iff_eq.1 h⟩
    have a1 := ruE_right (beq_iff_eq.1 h)
    rw [hk, Bool.true_and, Bool.true_and, Bool.eq_iff_iff, ruEq_iff, ruH_iff]
    unfold ruJ
    simp only [enC_lt, enC_gt]
    clear h hk h0
    split <;> rename_i p1 <;> split <;> rename_i p2 <;> omega
theorem rwit_any (a b : Ru) (w : World) : Calls Tryz.prog 19 #[V4 a, V4 b] w fun x w' => x = .returned (.bool (wiB a b)) ∧ Below w.heap.size w w' := by
  rw [← wit_eq]
  exact rwit0_any a b w (fun X => rright_any a b X) (fun X => rspan_any a b X)
set_option maxRecDepth 100000 in
theorem rhas_any (r : Ru) (n : Int) (w : World) : Calls Tryz.prog 21 #[V4 r, .int .i64 n] w fun x w' => x = .returned (.bool (haB r n)) ∧ Below w.heap.size w w' := by
  have hA := fun X => kof_any n X
  have hW := fun X => rwit_any ⟨0, n, 0, n⟩ r X
  rw [has_eq] at hW
  generalize haB r n = v at *
  obtain ⟨i, d, j, e⟩ := r
  (try dsimp only at *)
  go_enter Tryz.func21, Tryz.ntmps21
  go_upto_region 1 with fail
  obtain ⟨hK, hs, hb⟩ := run_new w i d j e _ rfl
  generalize (w.alloc (Obj.cells #[Value.int IntKind.i8 i, Value.int IntKind.i64 d, Value.int IntKind.i8 j, Value.int IntKind.i64 e] 26)) = W1 at *
  obtain ⟨k0, k1, k2, k3⟩ := id hK.quad
  have hX := Below.refl W1.heap.size W1
  have HA := Lib.hid (fun X (h : Below W1.heap.size W1 X) => callB hA h)
  have HW := Lib.hid (fun X (h : Below W1.heap.size W1 X) => callB hW h)
  clear hA hW
  go_upto_region 2 with (go_at_call 47; ((with_reducible refine (HA.out _ (bst hX (by go_grown))).mono ?_); rintro z w2 ⟨rfl, hk⟩; (try clear hX); have hX := hk; (try clear m0 m1 m2 m3); obtain ⟨m0, m1, m2, m3⟩ := (hK.below (by omega) hk).quad; clear hk))
  obtain ⟨hN, hsN, hbN⟩ := run_new w2 0 n 0 n _ rfl
  generalize (w2.alloc (Obj.cells #[Value.int IntKind.i8 0, Value.int IntKind.i64 n, Value.int IntKind.i8 0, Value.int IntKind.i64 n] 26)) = W2 at *
  have hX2 := bst hX hbN
  obtain ⟨v0, v1, v2, v3⟩ := id hN.quad
  clear hX m0 m1 m2 m3
  have hX := hX2
  clear hX2
  obtain ⟨m0, m1, m2, m3⟩ := (hK.below (by omega) hX).quad
  go_wp2_with (go_at_call 19; ((with_reducible refine (HW.out _ (bst hX (by go_grown))).mono ?_); rintro z w2 ⟨rfl, hk⟩; (try clear hX); have hX := hk; skip; clear hk))
  go_ret
  exact ⟨rfl, hb.trans (hX.mono (by omega))⟩
theorem com_zero {a b : Ru} (ha : ruE a = 0) (hb : ruE b = 0) : ruE (ruK a b) = 0 ↔ ruOv a b = true := by
  refine ⟨fun h => ?_, com_right ha hb⟩
  have a1 := ruE_right ha
  have b1 := ruE_right hb
  have k1 := ruE_right h
  unfold ruK at k1
  simp only [enC_lt, enC_gt] at k1
  rw [ruOv_iff, ruBeg_iff, ruBeg_iff]
  clear h ha hb
  split at k1 <;> rename_i p1 <;> split at k1 <;> rename_i p2 <;> omega
theorem ov_to {a b : Ru} (h : ruOv a b = true) : ruTo a b = true := by unfold ruTo; rw [h]; rfl
set_option maxHeartbeats 4000000 in
/-- Where no day is in common: which one touches the other one. -/
theorem touch_next {a b : Ru} (ha : ruE a = 0) (hb : ruE b = 0) (h : ¬ ruOv a b = true) (hA : a.In) (hB : b.In) :
    (nxE (ruK a b).j (ruK a b).e = 0 ∧ end8.eqE (nxI (ruK a b).j (ruK a b).e) (nxD (ruK a b).j (ruK a b).e) (ruK a b).i (ruK a b).d = ruTo a b) ∨ (¬ nxE (ruK a b).j (ruK a b).e = 0 ∧ ruTo a b = false) := by
  have a1 := ruE_right ha
  have b1 := ruE_right hb
  have h0 := h
  rw [ruOv_iff, ruBeg_iff, ruBeg_iff] at h
  have hT : ruTo a b = true ↔ (ruAd a b = true ∨ ruAd b a = true) := by
    rw [ruTo_iff]
    exact ⟨fun q => q.elim (fun q => absurd q h0) id, .inr⟩
  rw [ruAd_iff, ruAd_iff] at hT
  obtain ⟨-, -, -, a5⟩ := hA
  obtain ⟨-, -, -, b5⟩ := hB
  unfold I64 at a5 b5
  have hi : (ruK a b).i = 0 ∧ (ruK a b).j = 0 ∧ (((ruK a b).d = b.d ∧ (ruK a b).e = a.e ∧ b.i = 0 ∧ a.j = 0 ∧ a.e < b.d) ∨ ((ruK a b).d = a.d ∧ (ruK a b).e = b.e ∧ a.i = 0 ∧ b.j = 0 ∧ b.e < a.d)) := by
    unfold ruK
    simp only [enC_lt, enC_gt]
    clear hT h0 ha hb
    split <;> rename_i p1 <;> split <;> rename_i p2 <;> omega
  obtain ⟨h1, h2, h3⟩ := hi
  rw [h1, h2]
  rcases nxE_cases 0 (ruK a b).e with ⟨_, _, q0, q1, q2, q3⟩ | ⟨_, _, q0, q1, q2, q3⟩ | ⟨_, q0, _⟩ | ⟨_, q0, _⟩ | ⟨q0, _⟩
  · refine .inr ⟨by rw [q3]; decide, ?_⟩
    rw [Bool.eq_false_iff, Ne, hT]
    omega
  · refine .inl ⟨q3, ?_⟩
    rw [q1, q2, Bool.eq_iff_iff, end8.eqE_iff, hT]
    omega
  · exact absurd q0 (by decide)
  · exact absurd q0 (by decide)
  · exact absurd (show enE 0 (ruK a b).e = 0 from if_pos rfl) (by rw [q0]; decide)
set_option maxRecDepth 100000 in
theorem rtou_any (a b : Ru) (w : World) (ha : a.In) (hb : b.In) : Calls Tryz.prog 15 #[V4 a, V4 b] w fun x w' => x = .returned (.bool (toB a b)) ∧ Below w.heap.size w w' := by
  have hR := fun X => rright_any a b X
  have hO := fun X => rover_any a b X
  have hC := fun X => rchk_any (ruK a b) X
  have hN := fun X => knext_any (ruK a b).j (ruK a b).e X (com_in ha hb).2.2.2
  have hcs : (okU a b = false ∧ toB a b = false) ∨ (okU a b = true ∧ ruE (ruK a b) = 0 ∧ toB a b = true) ∨
      (okU a b = true ∧ ¬ ruE (ruK a b) = 0 ∧ nxE (ruK a b).j (ruK a b).e = 0 ∧ end8.eqE (nxI (ruK a b).j (ruK a b).e) (nxD (ruK a b).j (ruK a b).e) (ruK a b).i (ruK a b).d = toB a b) ∨
      (okU a b = true ∧ ¬ ruE (ruK a b) = 0 ∧ ¬ nxE (ruK a b).j (ruK a b).e = 0 ∧ toB a b = false) := by
    unfold toB
    cases h : okU a b
    · exact .inl ⟨rfl, rfl⟩
    · obtain ⟨h1, h2⟩ := (okU_iff a b).1 h
      by_cases q : ruOv a b = true
      · exact .inr (.inl ⟨rfl, (com_zero h1 h2).2 q, by rw [ov_to q]; rfl⟩)
      · have q2 : ¬ ruE (ruK a b) = 0 := fun q3 => q ((com_zero h1 h2).1 q3)
        rcases touch_next h1 h2 q ha hb with ⟨q3, q4⟩ | ⟨q3, q4⟩
        · exact .inr (.inr (.inl ⟨rfl, q2, q3, by rw [q4]; rfl⟩))
        · exact .inr (.inr (.inr ⟨rfl, q2, q3, by rw [q4]; rfl⟩))
  clear ha hb
  have q := fun w => end8.eq_any (nxI (ruK a b).j (ruK a b).e) (nxD (ruK a b).j (ruK a b).e) (ruK a b).i (ruK a b).d w
  generalize end8.eqE (nxI (ruK a b).j (ruK a b).e) (nxD (ruK a b).j (ruK a b).e) (ruK a b).i (ruK a b).d = y at *
  generalize nxE (ruK a b).j (ruK a b).e = ne at *
  generalize nxI (ruK a b).j (ruK a b).e = ni at *
  generalize nxD (ruK a b).j (ruK a b).e = nd at *
  generalize ruE (ruK a b) = ke at *
  generalize ruK a b = K at *
  generalize okU a b = ok at *
  generalize toB a b = t at *
  obtain ⟨i, d, j, e⟩ := a
  obtain ⟨a, b, c, f⟩ := b
  obtain ⟨i2, d2, j2, e2⟩ := K
  (try dsimp only at *)
  rcases hcs with ⟨rfl, rfl⟩ | ⟨rfl, rfl, rfl⟩ | ⟨rfl, p1, rfl, rfl⟩ | ⟨rfl, p1, p2, rfl⟩

  · skip
    have HR := Lib.hid hR
    have HO := Lib.hid hO
    have HC := Lib.hid hC
    have HN := Lib.hid hN
    clear hR hO hC hN
    go_enter Tryz.func15, Tryz.ntmps15
    go_upto_region 1 with fail
    have hb := Below.refl w.heap.size w
    have hX := Below.refl w.heap.size w
    obtain ⟨hK, zK, tK⟩ := run_new w i d j e _ rfl
    generalize (w.alloc (Obj.cells #[Value.int IntKind.i8 i, Value.int IntKind.i64 d, Value.int IntKind.i8 j, Value.int IntKind.i64 e] 26)) = V1 at *
    have hY := bst hX tK
    have hb' : Below w.heap.size w V1 := hb.trans (hY.mono hb.size)
    have lK : w.heap.size < V1.heap.size := by omega
    have eK : w.heap.size ≤ w.heap.size := Nat.le_trans hb.size hX.size
    have zz := zK
    clear hX hb hY tK zK
    have hb := hb'
    clear hb'
    have hX := Below.refl V1.heap.size V1
    have zz1 : V1.heap.size = w.heap.size + 1 := zz
    clear zz
    obtain ⟨hL, zL, tL⟩ := run_new V1 a b c f _ rfl
    generalize (V1.alloc (Obj.cells #[Value.int IntKind.i8 a, Value.int IntKind.i64 b, Value.int IntKind.i8 c, Value.int IntKind.i64 f] 26)) = V2 at *
    have hY := bst hX tL
    have hb' : Below w.heap.size w V2 := hb.trans (hY.mono hb.size)
    have lL : V1.heap.size < V2.heap.size := by omega
    have eL : w.heap.size ≤ V1.heap.size := Nat.le_trans hb.size hX.size
    have hK' := hK.below lK hY
    have lK' := Nat.lt_of_lt_of_le lK hY.size
    (try clear K0 K1 K2 K3)
    have zz := zL
    clear hX hb hY tL zL hK lK
    have hK := hK'
    have lK := lK'
    clear hK' lK'
    have hb := hb'
    clear hb'
    have hX := Below.refl V2.heap.size V2
    rw [zz1] at hL lL eL
    have zz2 : V2.heap.size = w.heap.size + 1 + 1 := by rw [zz, zz1]
    clear zz1
    clear zz
    obtain ⟨K0, K1, K2, K3⟩ := (id hK).quad
    obtain ⟨L0, L1, L2, L3⟩ := (id hL).quad
    go_wp2_with (go_at_call 43; ((with_reducible refine (HR.out _).mono ?_); rintro z w2 ⟨rfl, hk⟩; have hX' := bst (bst hX (by go_grown)) hk; clear hX hk; have hX := hX'; clear hX'; (try clear K0 K1 K2 K3); have cK := hK.below lK hX; obtain ⟨K0, K1, K2, K3⟩ := cK.quad; clear cK; (try clear L0 L1 L2 L3); have cL := hL.below lL hX; obtain ⟨L0, L1, L2, L3⟩ := cL.quad; clear cL))
    go_ret
    exact ⟨rfl, hb.trans (hX.mono hb.size)⟩
  · skip
    have HR := Lib.hid hR
    have HO := Lib.hid hO
    have HC := Lib.hid hC
    have HN := Lib.hid hN
    clear hR hO hC hN
    go_enter Tryz.func15, Tryz.ntmps15
    go_upto_region 1 with fail
    have hb := Below.refl w.heap.size w
    have hX := Below.refl w.heap.size w
    obtain ⟨hK, zK, tK⟩ := run_new w i d j e _ rfl
    generalize (w.alloc (Obj.cells #[Value.int IntKind.i8 i, Value.int IntKind.i64 d, Value.int IntKind.i8 j, Value.int IntKind.i64 e] 26)) = V1 at *
    have hY := bst hX tK
    have hb' : Below w.heap.size w V1 := hb.trans (hY.mono hb.size)
    have lK : w.heap.size < V1.heap.size := by omega
    have eK : w.heap.size ≤ w.heap.size := Nat.le_trans hb.size hX.size
    have zz := zK
    clear hX hb hY tK zK
    have hb := hb'
    clear hb'
    have hX := Below.refl V1.heap.size V1
    have zz1 : V1.heap.size = w.heap.size + 1 := zz
    clear zz
    obtain ⟨hL, zL, tL⟩ := run_new V1 a b c f _ rfl
    generalize (V1.alloc (Obj.cells #[Value.int IntKind.i8 a, Value.int IntKind.i64 b, Value.int IntKind.i8 c, Value.int IntKind.i64 f] 26)) = V2 at *
    have hY := bst hX tL
    have hb' : Below w.heap.size w V2 := hb.trans (hY.mono hb.size)
    have lL : V1.heap.size < V2.heap.size := by omega
    have eL : w.heap.size ≤ V1.heap.size := Nat.le_trans hb.size hX.size
    have hK' := hK.below lK hY
    have lK' := Nat.lt_of_lt_of_le lK hY.size
    (try clear K0 K1 K2 K3)
    have zz := zL
    clear hX hb hY tL zL hK lK
    have hK := hK'
    have lK := lK'
    clear hK' lK'
    have hb := hb'
    clear hb'
    have hX := Below.refl V2.heap.size V2
    rw [zz1] at hL lL eL
    have zz2 : V2.heap.size = w.heap.size + 1 + 1 := by rw [zz, zz1]
    clear zz1
    clear zz
    obtain ⟨K0, K1, K2, K3⟩ := (id hK).quad
    obtain ⟨L0, L1, L2, L3⟩ := (id hL).quad
    go_upto_region 4 with (first
          | (go_at_call 43; ((with_reducible refine (HR.out _).mono ?_); rintro z w2 ⟨rfl, hk⟩; have hX' := bst (bst hX (by go_grown)) hk; clear hX hk; have hX := hX'; clear hX'; (try clear K0 K1 K2 K3); have cK := hK.below lK hX; obtain ⟨K0, K1, K2, K3⟩ := cK.quad; clear cK; (try clear L0 L1 L2 L3); have cL := hL.below lL hX; obtain ⟨L0, L1, L2, L3⟩ := cL.quad; clear cL))
          | (go_at_call 45; ((with_reducible refine (HO.out _).mono ?_); rintro z w2 ⟨rfl, hk⟩; have hX' := bst (bst hX (by go_grown)) hk; clear hX hk; have hX := hX'; clear hX'; (try clear K0 K1 K2 K3); have cK := hK.below lK hX; obtain ⟨K0, K1, K2, K3⟩ := cK.quad; clear cK; (try clear L0 L1 L2 L3); have cL := hL.below lL hX; obtain ⟨L0, L1, L2, L3⟩ := cL.quad; clear cL)))
    (try clear zz2)
    (try clear K0 K1 K2 K3)
    (try clear hK lK)
    (try clear L0 L1 L2 L3)
    (try clear hL lL)
    obtain ⟨hG, zG, tG⟩ := run_new w2 i2 d2 j2 e2 _ rfl
    generalize (w2.alloc (Obj.cells #[Value.int IntKind.i8 i2, Value.int IntKind.i64 d2, Value.int IntKind.i8 j2, Value.int IntKind.i64 e2] 26)) = V3 at *
    have hY := bst hX tG
    have hb' : Below w.heap.size w V3 := hb.trans (hY.mono hb.size)
    have lG : w2.heap.size < V3.heap.size := by omega
    have eG : w.heap.size ≤ w2.heap.size := Nat.le_trans hb.size hX.size
    have zz := zG
    clear hX hb hY tG zG
    have hb := hb'
    clear hb'
    have hX := Below.refl V3.heap.size V3
    generalize w2.heap.size = gG at *
    clear zz
    obtain ⟨G0, G1, G2, G3⟩ := (id hG).quad
    go_wp2_with (go_at_call 8; ((with_reducible refine (HC.out _).mono ?_); rintro z w2 ⟨rfl, hk⟩; have hX' := bst (bst hX (by go_grown)) hk; clear hX hk; have hX := hX'; clear hX'; (try clear G0 G1 G2 G3); have cG := hG.below lG hX; obtain ⟨G0, G1, G2, G3⟩ := cG.quad; clear cG))
    go_ret
    exact ⟨rfl, hb.trans (hX.mono hb.size)⟩
  · skip
    have HR := Lib.hid hR
    have HO := Lib.hid hO
    have HC := Lib.hid hC
    have HN := Lib.hid hN
    clear hR hO hC hN
    go_enter Tryz.func15, Tryz.ntmps15
    go_upto_region 1 with fail
    have hb := Below.refl w.heap.size w
    have hX := Below.refl w.heap.size w
    obtain ⟨hK, zK, tK⟩ := run_new w i d j e _ rfl
    generalize (w.alloc (Obj.cells #[Value.int IntKind.i8 i, Value.int IntKind.i64 d, Value.int IntKind.i8 j, Value.int IntKind.i64 e] 26)) = V1 at *
    have hY := bst hX tK
    have hb' : Below w.heap.size w V1 := hb.trans (hY.mono hb.size)
    have lK : w.heap.size < V1.heap.size := by omega
    have eK : w.heap.size ≤ w.heap.size := Nat.le_trans hb.size hX.size
    have zz := zK
    clear hX hb hY tK zK
    have hb := hb'
    clear hb'
    have hX := Below.refl V1.heap.size V1
    have zz1 : V1.heap.size = w.heap.size + 1 := zz
    clear zz
    obtain ⟨hL, zL, tL⟩ := run_new V1 a b c f _ rfl
    generalize (V1.alloc (Obj.cells #[Value.int IntKind.i8 a, Value.int IntKind.i64 b, Value.int IntKind.i8 c, Value.int IntKind.i64 f] 26)) = V2 at *
    have hY := bst hX tL
    have hb' : Below w.heap.size w V2 := hb.trans (hY.mono hb.size)
    have lL : V1.heap.size < V2.heap.size := by omega
    have eL : w.heap.size ≤ V1.heap.size := Nat.le_trans hb.size hX.size
    have hK' := hK.below lK hY
    have lK' := Nat.lt_of_lt_of_le lK hY.size
    (try clear K0 K1 K2 K3)
    have zz := zL
    clear hX hb hY tL zL hK lK
    have hK := hK'
    have lK := lK'
    clear hK' lK'
    have hb := hb'
    clear hb'
    have hX := Below.refl V2.heap.size V2
    rw [zz1] at hL lL eL
    have zz2 : V2.heap.size = w.heap.size + 1 + 1 := by rw [zz, zz1]
    clear zz1
    clear zz
    obtain ⟨K0, K1, K2, K3⟩ := (id hK).quad
    obtain ⟨L0, L1, L2, L3⟩ := (id hL).quad
    go_upto_region 4 with (first
          | (go_at_call 43; ((with_reducible refine (HR.out _).mono ?_); rintro z w2 ⟨rfl, hk⟩; have hX' := bst (bst hX (by go_grown)) hk; clear hX hk; have hX := hX'; clear hX'; (try clear K0 K1 K2 K3); have cK := hK.below lK hX; obtain ⟨K0, K1, K2, K3⟩ := cK.quad; clear cK; (try clear L0 L1 L2 L3); have cL := hL.below lL hX; obtain ⟨L0, L1, L2, L3⟩ := cL.quad; clear cL))
          | (go_at_call 45; ((with_reducible refine (HO.out _).mono ?_); rintro z w2 ⟨rfl, hk⟩; have hX' := bst (bst hX (by go_grown)) hk; clear hX hk; have hX := hX'; clear hX'; (try clear K0 K1 K2 K3); have cK := hK.below lK hX; obtain ⟨K0, K1, K2, K3⟩ := cK.quad; clear cK; (try clear L0 L1 L2 L3); have cL := hL.below lL hX; obtain ⟨L0, L1, L2, L3⟩ := cL.quad; clear cL)))
    (try clear zz2)
    (try clear K0 K1 K2 K3)
    (try clear hK lK)
    (try clear L0 L1 L2 L3)
    (try clear hL lL)
    obtain ⟨hG, zG, tG⟩ := run_new w2 i2 d2 j2 e2 _ rfl
    generalize (w2.alloc (Obj.cells #[Value.int IntKind.i8 i2, Value.int IntKind.i64 d2, Value.int IntKind.i8 j2, Value.int IntKind.i64 e2] 26)) = V3 at *
    have hY := bst hX tG
    have hb' : Below w.heap.size w V3 := hb.trans (hY.mono hb.size)
    have lG : w2.heap.size < V3.heap.size := by omega
    have eG : w.heap.size ≤ w2.heap.size := Nat.le_trans hb.size hX.size
    have zz := zG
    clear hX hb hY tG zG
    have hb := hb'
    clear hb'
    have hX := Below.refl V3.heap.size V3
    generalize w2.heap.size = gG at *
    clear zz
    obtain ⟨G0, G1, G2, G3⟩ := (id hG).quad
    go_upto_region 7 with (first
          | (go_at_call 8; ((with_reducible refine (HC.out _).mono ?_); rintro z w2 ⟨rfl, hk⟩; have hX' := bst (bst hX (by go_grown)) hk; clear hX hk; have hX := hX'; clear hX'; (try clear G0 G1 G2 G3); have cG := hG.below lG hX; obtain ⟨G0, G1, G2, G3⟩ := cG.quad; clear cG))
          | (go_at_call 46; ((with_reducible refine (HN.out _).mono ?_); rintro z w2 ⟨rfl, hk⟩; have hX' := bst (bst hX (by go_grown)) hk; clear hX hk; have hX := hX'; clear hX'; (try clear G0 G1 G2 G3); have cG := hG.below lG hX; obtain ⟨G0, G1, G2, G3⟩ := cG.quad; clear cG)))
    obtain ⟨hE, zE, tE⟩ := end_new2 w2 ni nd _ rfl
    generalize (w2.alloc (Obj.cells #[Value.int IntKind.i8 ni, Value.int IntKind.i64 nd] 24)) = V4 at *
    have hY := bst hX tE
    have hb' : Below w.heap.size w V4 := hb.trans (hY.mono hb.size)
    have lE : w2.heap.size < V4.heap.size := by omega
    have eE : w.heap.size ≤ w2.heap.size := Nat.le_trans hb.size hX.size
    have hG' := hG.below lG hY
    have lG' := Nat.lt_of_lt_of_le lG hY.size
    (try clear G0 G1 G2 G3)
    have zz := zE
    clear hX hb hY tE zE hG lG
    have hG := hG'
    have lG := lG'
    clear hG' lG'
    have hb := hb'
    clear hb'
    have hX := Below.refl V4.heap.size V4
    generalize w2.heap.size = gE at *
    clear zz
    obtain ⟨G0, G1, G2, G3⟩ := (id hG).quad
    obtain ⟨E0, E1⟩ := (id hE).duo
    go_wp2_with fail
    go_ret
    exact ⟨rfl, hb.trans (hX.mono hb.size)⟩
  · skip
    have HR := Lib.hid hR
    have HO := Lib.hid hO
    have HC := Lib.hid hC
    have HN := Lib.hid hN
    clear hR hO hC hN
    go_enter Tryz.func15, Tryz.ntmps15
    go_upto_region 1 with fail
    have hb := Below.refl w.heap.size w
    have hX := Below.refl w.heap.size w
    obtain ⟨hK, zK, tK⟩ := run_new w i d j e _ rfl
    generalize (w.alloc (Obj.cells #[Value.int IntKind.i8 i, Value.int IntKind.i64 d, Value.int IntKind.i8 j, Value.int IntKind.i64 e] 26)) = V1 at *
    have hY := bst hX tK
    have hb' : Below w.heap.size w V1 := hb.trans (hY.mono hb.size)
    have lK : w.heap.size < V1.heap.size := by omega
    have eK : w.heap.size ≤ w.heap.size := Nat.le_trans hb.size hX.size
    have zz := zK
    clear hX hb hY tK zK
    have hb := hb'
    clear hb'
    have hX := Below.refl V1.heap.size V1
    have zz1 : V1.heap.size = w.heap.size + 1 := zz
    clear zz
    obtain ⟨hL, zL, tL⟩ := run_new V1 a b c f _ rfl
    generalize (V1.alloc (Obj.cells #[Value.int IntKind.i8 a, Value.int IntKind.i64 b, Value.int IntKind.i8 c, Value.int IntKind.i64 f] 26)) = V2 at *
    have hY := bst hX tL
    have hb' : Below w.heap.size w V2 := hb.trans (hY.mono hb.size)
    have lL : V1.heap.size < V2.heap.size := by omega
    have eL : w.heap.size ≤ V1.heap.size := Nat.le_trans hb.size hX.size
    have hK' := hK.below lK hY
    have lK' := Nat.lt_of_lt_of_le lK hY.size
    (try clear K0 K1 K2 K3)
    have zz := zL
    clear hX hb hY tL zL hK lK
    have hK := hK'
    have lK := lK'
    clear hK' lK'
    have hb := hb'
    clear hb'
    have hX := Below.refl V2.heap.size V2
    rw [zz1] at hL lL eL
    have zz2 : V2.heap.size = w.heap.size + 1 + 1 := by rw [zz, zz1]
    clear zz1
    clear zz
    obtain ⟨K0, K1, K2, K3⟩ := (id hK).quad
    obtain ⟨L0, L1, L2, L3⟩ := (id hL).quad
    go_upto_region 4 with (first
          | (go_at_call 43; ((with_reducible refine (HR.out _).mono ?_); rintro z w2 ⟨rfl, hk⟩; have hX' := bst (bst hX (by go_grown)) hk; clear hX hk; have hX := hX'; clear hX'; (try clear K0 K1 K2 K3); have cK := hK.below lK hX; obtain ⟨K0, K1, K2, K3⟩ := cK.quad; clear cK; (try clear L0 L1 L2 L3); have cL := hL.below lL hX; obtain ⟨L0, L1, L2, L3⟩ := cL.quad; clear cL))
          | (go_at_call 45; ((with_reducible refine (HO.out _).mono ?_); rintro z w2 ⟨rfl, hk⟩; have hX' := bst (bst hX (by go_grown)) hk; clear hX hk; have hX := hX'; clear hX'; (try clear K0 K1 K2 K3); have cK := hK.below lK hX; obtain ⟨K0, K1, K2, K3⟩ := cK.quad; clear cK; (try clear L0 L1 L2 L3); have cL := hL.below lL hX; obtain ⟨L0, L1, L2, L3⟩ := cL.quad; clear cL)))
    (try clear zz2)
    (try clear K0 K1 K2 K3)
    (try clear hK lK)
    (try clear L0 L1 L2 L3)
    (try clear hL lL)
    obtain ⟨hG, zG, tG⟩ := run_new w2 i2 d2 j2 e2 _ rfl
    generalize (w2.alloc (Obj.cells #[Value.int IntKind.i8 i2, Value.int IntKind.i64 d2, Value.int IntKind.i8 j2, Value.int IntKind.i64 e2] 26)) = V3 at *
    have hY := bst hX tG
    have hb' : Below w.heap.size w V3 := hb.trans (hY.mono hb.size)
    have lG : w2.heap.size < V3.heap.size := by omega
    have eG : w.heap.size ≤ w2.heap.size := Nat.le_trans hb.size hX.size
    have zz := zG
    clear hX hb hY tG zG
    have hb := hb'
    clear hb'
    have hX := Below.refl V3.heap.size V3
    generalize w2.heap.size = gG at *
    clear zz
    obtain ⟨G0, G1, G2, G3⟩ := (id hG).quad
    go_upto_region 7 with (first
          | (go_at_call 8; ((with_reducible refine (HC.out _).mono ?_); rintro z w2 ⟨rfl, hk⟩; have hX' := bst (bst hX (by go_grown)) hk; clear hX hk; have hX := hX'; clear hX'; (try clear G0 G1 G2 G3); have cG := hG.below lG hX; obtain ⟨G0, G1, G2, G3⟩ := cG.quad; clear cG))
          | (go_at_call 46; ((with_reducible refine (HN.out _).mono ?_); rintro z w2 ⟨rfl, hk⟩; have hX' := bst (bst hX (by go_grown)) hk; clear hX hk; have hX := hX'; clear hX'; (try clear G0 G1 G2 G3); have cG := hG.below lG hX; obtain ⟨G0, G1, G2, G3⟩ := cG.quad; clear cG)))
    obtain ⟨hE, zE, tE⟩ := end_new2 w2 ni nd _ rfl
    generalize (w2.alloc (Obj.cells #[Value.int IntKind.i8 ni, Value.int IntKind.i64 nd] 24)) = V4 at *
    have hY := bst hX tE
    have hb' : Below w.heap.size w V4 := hb.trans (hY.mono hb.size)
    have lE : w2.heap.size < V4.heap.size := by omega
    have eE : w.heap.size ≤ w2.heap.size := Nat.le_trans hb.size hX.size
    have hG' := hG.below lG hY
    have lG' := Nat.lt_of_lt_of_le lG hY.size
    (try clear G0 G1 G2 G3)
    have zz := zE
    clear hX hb hY tE zE hG lG
    have hG := hG'
    have lG := lG'
    clear hG' lG'
    have hb := hb'
    clear hb'
    have hX := Below.refl V4.heap.size V4
    generalize w2.heap.size = gE at *
    clear zz
    obtain ⟨G0, G1, G2, G3⟩ := (id hG).quad
    obtain ⟨E0, E1⟩ := (id hE).duo
    go_wp2_with fail
    go_ret
    exact ⟨rfl, hb.trans (hX.mono hb.size)⟩
end Go.Proofs.YtmbaohjekeiphaaGreatDoor
/- The functions of package runs, for the landed code: Join, Common, Len, foremost. -/
namespace Go.Proofs.YtmbaohjekeiphaaGreatDoor
open Go.RowKit

set_option maxRecDepth 100000 in
theorem rjoi_any (a b : Ru) (w : World) (ha : a.In) (hb : b.In) : Calls Tryz.prog 13 #[V4 a, V4 b] w fun x w' => x = .returned (.tuple #[V4 (joR a b), .bool (toB a b)]) ∧ Below w.heap.size w w' := by
  have hT := fun X => rtou_any a b X ha hb
  have hS := fun X => rspan_any a b X
  clear ha hb
  unfold joR
  generalize toB a b = t at *
  generalize ruJ a b = K at *
  obtain ⟨i, d, j, e⟩ := a
  obtain ⟨a, b, c, f⟩ := b
  obtain ⟨i2, d2, j2, e2⟩ := K
  (try dsimp only at *)
  cases t
  all_goals (first | rw [if_pos rfl] | rw [if_neg (by decide)])
  all_goals (try unfold ru0)
  all_goals (try dsimp only)
  · skip
    have HT := Lib.hid hT
    have HS := Lib.hid hS
    clear hT hS
    go_enter Tryz.func13, Tryz.ntmps13
    go_upto_region 1 with fail
    have hb := Below.refl w.heap.size w
    have hX := Below.refl w.heap.size w
    obtain ⟨hK, zK, tK⟩ := run_new w i d j e _ rfl
    generalize (w.alloc (Obj.cells #[Value.int IntKind.i8 i, Value.int IntKind.i64 d, Value.int IntKind.i8 j, Value.int IntKind.i64 e] 26)) = V1 at *
    have hY := bst hX tK
    have hb' : Below w.heap.size w V1 := hb.trans (hY.mono hb.size)
    have lK : w.heap.size < V1.heap.size := by omega
    have eK : w.heap.size ≤ w.heap.size := Nat.le_trans hb.size hX.size
    have zz := zK
    clear hX hb hY tK zK
    have hb := hb'
    clear hb'
    have hX := Below.refl V1.heap.size V1
    have zz1 : V1.heap.size = w.heap.size + 1 := zz
    clear zz
    obtain ⟨hL, zL, tL⟩ := run_new V1 a b c f _ rfl
    generalize (V1.alloc (Obj.cells #[Value.int IntKind.i8 a, Value.int IntKind.i64 b, Value.int IntKind.i8 c, Value.int IntKind.i64 f] 26)) = V2 at *
    have hY := bst hX tL
    have hb' : Below w.heap.size w V2 := hb.trans (hY.mono hb.size)
    have lL : V1.heap.size < V2.heap.size := by omega
    have eL : w.heap.size ≤ V1.heap.size := Nat.le_trans hb.size hX.size
    have hK' := hK.below lK hY
    have lK' := Nat.lt_of_lt_of_le lK hY.size
    (try clear K0 K1 K2 K3)
    have zz := zL
    clear hX hb hY tL zL hK lK
    have hK := hK'
    have lK := lK'
    clear hK' lK'
    have hb := hb'
    clear hb'
    have hX := Below.refl V2.heap.size V2
    rw [zz1] at hL lL eL
    have zz2 : V2.heap.size = w.heap.size + 1 + 1 := by rw [zz, zz1]
    clear zz1
    clear zz
    obtain ⟨hM, zM, tM⟩ := run_new V2 0 0 0 0 _ rfl
    generalize (V2.alloc (Obj.cells #[Value.int IntKind.i8 0, Value.int IntKind.i64 0, Value.int IntKind.i8 0, Value.int IntKind.i64 0] 26)) = V3 at *
    have hY := bst hX tM
    have hb' : Below w.heap.size w V3 := hb.trans (hY.mono hb.size)
    have lM : V2.heap.size < V3.heap.size := by omega
    have eM : w.heap.size ≤ V2.heap.size := Nat.le_trans hb.size hX.size
    have hK' := hK.below lK hY
    have lK' := Nat.lt_of_lt_of_le lK hY.size
    have hL' := hL.below lL hY
    have lL' := Nat.lt_of_lt_of_le lL hY.size
    (try clear K0 K1 K2 K3 L0 L1 L2 L3)
    have zz := zM
    clear hX hb hY tM zM hK lK hL lL
    have hK := hK'
    have lK := lK'
    clear hK' lK'
    have hL := hL'
    have lL := lL'
    clear hL' lL'
    have hb := hb'
    clear hb'
    have hX := Below.refl V3.heap.size V3
    rw [zz2] at hM lM eM
    have zz3 : V3.heap.size = w.heap.size + 1 + 1 + 1 := by rw [zz, zz2]
    clear zz2
    clear zz
    obtain ⟨K0, K1, K2, K3⟩ := (id hK).quad
    obtain ⟨L0, L1, L2, L3⟩ := (id hL).quad
    obtain ⟨M0, M1, M2, M3⟩ := (id hM).quad; have yM0 := (id hM).frozen 0; have yM1 := (id hM).frozen 1; have yM2 := (id hM).frozen 2; have yM3 := (id hM).frozen 3
    go_wp2_with (go_at_call 15; ((with_reducible refine (HT.out _).mono ?_); rintro z w2 ⟨rfl, hk⟩; have hX' := bst (bst hX (by go_grown)) hk; clear hX hk; have hX := hX'; clear hX'; (try clear K0 K1 K2 K3); have cK := hK.below lK hX; obtain ⟨K0, K1, K2, K3⟩ := cK.quad; clear cK; (try clear L0 L1 L2 L3); have cL := hL.below lL hX; obtain ⟨L0, L1, L2, L3⟩ := cL.quad; clear cL; (try clear M0 M1 M2 M3 yM0 yM1 yM2 yM3); (try clear cM); have cM := hM.below lM hX; obtain ⟨M0, M1, M2, M3⟩ := cM.quad; have yM0 := cM.frozen 0; have yM1 := cM.frozen 1; have yM2 := cM.frozen 2; have yM3 := cM.frozen 3))
    exact bodyPost_ret (res_run2 rfl rfl rfl (cM.store 0 0 0 0).quad) rfl ⟨rfl, set4_below (hb.trans (hX.mono hb.size)) eM 0 0 0 0⟩
  · skip
    have HT := Lib.hid hT
    have HS := Lib.hid hS
    clear hT hS
    go_enter Tryz.func13, Tryz.ntmps13
    go_upto_region 1 with fail
    have hb := Below.refl w.heap.size w
    have hX := Below.refl w.heap.size w
    obtain ⟨hK, zK, tK⟩ := run_new w i d j e _ rfl
    generalize (w.alloc (Obj.cells #[Value.int IntKind.i8 i, Value.int IntKind.i64 d, Value.int IntKind.i8 j, Value.int IntKind.i64 e] 26)) = V1 at *
    have hY := bst hX tK
    have hb' : Below w.heap.size w V1 := hb.trans (hY.mono hb.size)
    have lK : w.heap.size < V1.heap.size := by omega
    have eK : w.heap.size ≤ w.heap.size := Nat.le_trans hb.size hX.size
    have zz := zK
    clear hX hb hY tK zK
    have hb := hb'
    clear hb'
    have hX := Below.refl V1.heap.size V1
    have zz1 : V1.heap.size = w.heap.size + 1 := zz
    clear zz
    obtain ⟨hL, zL, tL⟩ := run_new V1 a b c f _ rfl
    generalize (V1.alloc (Obj.cells #[Value.int IntKind.i8 a, Value.int IntKind.i64 b, Value.int IntKind.i8 c, Value.int IntKind.i64 f] 26)) = V2 at *
    have hY := bst hX tL
    have hb' : Below w.heap.size w V2 := hb.trans (hY.mono hb.size)
    have lL : V1.heap.size < V2.heap.size := by omega
    have eL : w.heap.size ≤ V1.heap.size := Nat.le_trans hb.size hX.size
    have hK' := hK.below lK hY
    have lK' := Nat.lt_of_lt_of_le lK hY.size
    (try clear K0 K1 K2 K3)
    have zz := zL
    clear hX hb hY tL zL hK lK
    have hK := hK'
    have lK := lK'
    clear hK' lK'
    have hb := hb'
    clear hb'
    have hX := Below.refl V2.heap.size V2
    rw [zz1] at hL lL eL
    have zz2 : V2.heap.size = w.heap.size + 1 + 1 := by rw [zz, zz1]
    clear zz1
    clear zz
    obtain ⟨hM, zM, tM⟩ := run_new V2 0 0 0 0 _ rfl
    generalize (V2.alloc (Obj.cells #[Value.int IntKind.i8 0, Value.int IntKind.i64 0, Value.int IntKind.i8 0, Value.int IntKind.i64 0] 26)) = V3 at *
    have hY := bst hX tM
    have hb' : Below w.heap.size w V3 := hb.trans (hY.mono hb.size)
    have lM : V2.heap.size < V3.heap.size := by omega
    have eM : w.heap.size ≤ V2.heap.size := Nat.le_trans hb.size hX.size
    have hK' := hK.below lK hY
    have lK' := Nat.lt_of_lt_of_le lK hY.size
    have hL' := hL.below lL hY
    have lL' := Nat.lt_of_lt_of_le lL hY.size
    (try clear K0 K1 K2 K3 L0 L1 L2 L3)
    have zz := zM
    clear hX hb hY tM zM hK lK hL lL
    have hK := hK'
    have lK := lK'
    clear hK' lK'
    have hL := hL'
    have lL := lL'
    clear hL' lL'
    have hb := hb'
    clear hb'
    have hX := Below.refl V3.heap.size V3
    rw [zz2] at hM lM eM
    have zz3 : V3.heap.size = w.heap.size + 1 + 1 + 1 := by rw [zz, zz2]
    clear zz2
    clear zz
    obtain ⟨K0, K1, K2, K3⟩ := (id hK).quad
    obtain ⟨L0, L1, L2, L3⟩ := (id hL).quad
    obtain ⟨M0, M1, M2, M3⟩ := (id hM).quad; have yM0 := (id hM).frozen 0; have yM1 := (id hM).frozen 1; have yM2 := (id hM).frozen 2; have yM3 := (id hM).frozen 3
    go_wp2_with (first
          | (go_at_call 15; ((with_reducible refine (HT.out _).mono ?_); rintro z w2 ⟨rfl, hk⟩; have hX' := bst (bst hX (by go_grown)) hk; clear hX hk; have hX := hX'; clear hX'; (try clear K0 K1 K2 K3); have cK := hK.below lK hX; obtain ⟨K0, K1, K2, K3⟩ := cK.quad; clear cK; (try clear L0 L1 L2 L3); have cL := hL.below lL hX; obtain ⟨L0, L1, L2, L3⟩ := cL.quad; clear cL; (try clear M0 M1 M2 M3 yM0 yM1 yM2 yM3); (try clear cM); have cM := hM.below lM hX; obtain ⟨M0, M1, M2, M3⟩ := cM.quad; have yM0 := cM.frozen 0; have yM1 := cM.frozen 1; have yM2 := cM.frozen 2; have yM3 := cM.frozen 3))
          | (go_at_call 42; ((with_reducible refine (HS.out _).mono ?_); rintro z w2 ⟨rfl, hk⟩; have hX' := bst (bst hX (by go_grown)) hk; clear hX hk; have hX := hX'; clear hX'; (try clear K0 K1 K2 K3); have cK := hK.below lK hX; obtain ⟨K0, K1, K2, K3⟩ := cK.quad; clear cK; (try clear L0 L1 L2 L3); have cL := hL.below lL hX; obtain ⟨L0, L1, L2, L3⟩ := cL.quad; clear cL; (try clear M0 M1 M2 M3 yM0 yM1 yM2 yM3); (try clear cM); have cM := hM.below lM hX; obtain ⟨M0, M1, M2, M3⟩ := cM.quad; have yM0 := cM.frozen 0; have yM1 := cM.frozen 1; have yM2 := cM.frozen 2; have yM3 := cM.frozen 3)))
    exact bodyPost_ret (res_run2 rfl rfl rfl (cM.store i2 d2 j2 e2).quad) rfl ⟨rfl, set4_below (hb.trans (hX.mono hb.size)) eM i2 d2 j2 e2⟩
theorem com_cases (a b : Ru) : (okU a b = false ∧ coB a b = false ∧ coR a b = ru0) ∨ (okU a b = true ∧ ruE (ruK a b) = 0 ∧ coB a b = true ∧ coR a b = ckR (ruK a b)) ∨ (okU a b = true ∧ ¬ ruE (ruK a b) = 0 ∧ coB a b = false ∧ coR a b = ckR (ruK a b)) := by
  unfold coR coB
  cases h : okU a b
  · exact .inl ⟨rfl, rfl, rfl⟩
  · obtain ⟨h1, h2⟩ := (okU_iff a b).1 h
    by_cases q : ruOv a b = true
    · have q2 := (com_zero h1 h2).2 q
      exact .inr (.inl ⟨rfl, q2, by rw [q]; rfl, by rw [q]; unfold ckR; rw [if_pos q2]; rfl⟩)
    · have q2 : ¬ ruE (ruK a b) = 0 := fun q3 => q ((com_zero h1 h2).1 q3)
      rw [Bool.not_eq_true] at q
      exact .inr (.inr ⟨rfl, q2, by rw [q]; rfl, by rw [q]; unfold ckR; rw [if_neg q2]; rfl⟩)
set_option maxRecDepth 100000 in
theorem rcom_any (a b : Ru) (w : World) : Calls Tryz.prog 14 #[V4 a, V4 b] w fun x w' => x = .returned (.tuple #[V4 (coR a b), .bool (coB a b)]) ∧ Below w.heap.size w w' := by
  have hR := fun X => rright_any a b X
  have hO := fun X => rover_any a b X
  have hC := fun X => rcked_any (ruK a b) X
  have hcs := com_cases a b
  generalize ckR (ruK a b) = R at *
  generalize coB a b = t at *
  generalize coR a b = r at *
  generalize ruE (ruK a b) = ke at *
  generalize okU a b = ok at *
  generalize ruK a b = K at *
  obtain ⟨i, d, j, e⟩ := a
  obtain ⟨a, b, c, f⟩ := b
  obtain ⟨i2, d2, j2, e2⟩ := K
  obtain ⟨i3, d3, j3, e3⟩ := R
  (try dsimp only at *)
  rcases hcs with ⟨rfl, rfl, rfl⟩ | ⟨rfl, rfl, rfl, rfl⟩ | ⟨rfl, p1, rfl, rfl⟩
  all_goals (try unfold ru0)
  all_goals (try dsimp only)
  · skip
    have HR := Lib.hid hR
    have HO := Lib.hid hO
    have HC := Lib.hid hC
    clear hR hO hC
    go_enter Tryz.func14, Tryz.ntmps14
    go_upto_region 1 with fail
    have hb := Below.refl w.heap.size w
    have hX := Below.refl w.heap.size w
    obtain ⟨hK, zK, tK⟩ := run_new w i d j e _ rfl
    generalize (w.alloc (Obj.cells #[Value.int IntKind.i8 i, Value.int IntKind.i64 d, Value.int IntKind.i8 j, Value.int IntKind.i64 e] 26)) = V1 at *
    have hY := bst hX tK
    have hb' : Below w.heap.size w V1 := hb.trans (hY.mono hb.size)
    have lK : w.heap.size < V1.heap.size := by omega
    have eK : w.heap.size ≤ w.heap.size := Nat.le_trans hb.size hX.size
    have zz := zK
    clear hX hb hY tK zK
    have hb := hb'
    clear hb'
    have hX := Below.refl V1.heap.size V1
    have zz1 : V1.heap.size = w.heap.size + 1 := zz
    clear zz
    obtain ⟨hL, zL, tL⟩ := run_new V1 a b c f _ rfl
    generalize (V1.alloc (Obj.cells #[Value.int IntKind.i8 a, Value.int IntKind.i64 b, Value.int IntKind.i8 c, Value.int IntKind.i64 f] 26)) = V2 at *
    have hY := bst hX tL
    have hb' : Below w.heap.size w V2 := hb.trans (hY.mono hb.size)
    have lL : V1.heap.size < V2.heap.size := by omega
    have eL : w.heap.size ≤ V1.heap.size := Nat.le_trans hb.size hX.size
    have hK' := hK.below lK hY
    have lK' := Nat.lt_of_lt_of_le lK hY.size
    (try clear K0 K1 K2 K3)
    have zz := zL
    clear hX hb hY tL zL hK lK
    have hK := hK'
    have lK := lK'
    clear hK' lK'
    have hb := hb'
    clear hb'
    have hX := Below.refl V2.heap.size V2
    rw [zz1] at hL lL eL
    have zz2 : V2.heap.size = w.heap.size + 1 + 1 := by rw [zz, zz1]
    clear zz1
    clear zz
    obtain ⟨hM, zM, tM⟩ := run_new V2 0 0 0 0 _ rfl
    generalize (V2.alloc (Obj.cells #[Value.int IntKind.i8 0, Value.int IntKind.i64 0, Value.int IntKind.i8 0, Value.int IntKind.i64 0] 26)) = V3 at *
    have hY := bst hX tM
    have hb' : Below w.heap.size w V3 := hb.trans (hY.mono hb.size)
    have lM : V2.heap.size < V3.heap.size := by omega
    have eM : w.heap.size ≤ V2.heap.size := Nat.le_trans hb.size hX.size
    have hK' := hK.below lK hY
    have lK' := Nat.lt_of_lt_of_le lK hY.size
    have hL' := hL.below lL hY
    have lL' := Nat.lt_of_lt_of_le lL hY.size
    (try clear K0 K1 K2 K3 L0 L1 L2 L3)
    have zz := zM
    clear hX hb hY tM zM hK lK hL lL
    have hK := hK'
    have lK := lK'
    clear hK' lK'
    have hL := hL'
    have lL := lL'
    clear hL' lL'
    have hb := hb'
    clear hb'
    have hX := Below.refl V3.heap.size V3
    rw [zz2] at hM lM eM
    have zz3 : V3.heap.size = w.heap.size + 1 + 1 + 1 := by rw [zz, zz2]
    clear zz2
    clear zz
    obtain ⟨K0, K1, K2, K3⟩ := (id hK).quad
    obtain ⟨L0, L1, L2, L3⟩ := (id hL).quad
    obtain ⟨M0, M1, M2, M3⟩ := (id hM).quad; have yM0 := (id hM).frozen 0; have yM1 := (id hM).frozen 1; have yM2 := (id hM).frozen 2; have yM3 := (id hM).frozen 3
    go_wp2_with (go_at_call 43; ((with_reducible refine (HR.out _).mono ?_); rintro z w2 ⟨rfl, hk⟩; have hX' := bst (bst hX (by go_grown)) hk; clear hX hk; have hX := hX'; clear hX'; (try clear K0 K1 K2 K3); have cK := hK.below lK hX; obtain ⟨K0, K1, K2, K3⟩ := cK.quad; clear cK; (try clear L0 L1 L2 L3); have cL := hL.below lL hX; obtain ⟨L0, L1, L2, L3⟩ := cL.quad; clear cL; (try clear M0 M1 M2 M3 yM0 yM1 yM2 yM3); (try clear cM); have cM := hM.below lM hX; obtain ⟨M0, M1, M2, M3⟩ := cM.quad; have yM0 := cM.frozen 0; have yM1 := cM.frozen 1; have yM2 := cM.frozen 2; have yM3 := cM.frozen 3))
    exact bodyPost_ret (res_run2 rfl rfl rfl (cM.store 0 0 0 0).quad) rfl ⟨rfl, set4_below (hb.trans (hX.mono hb.size)) eM 0 0 0 0⟩
  · skip
    have HR := Lib.hid hR
    have HO := Lib.hid hO
    have HC := Lib.hid hC
    clear hR hO hC
    go_enter Tryz.func14, Tryz.ntmps14
    go_upto_region 1 with fail
    have hb := Below.refl w.heap.size w
    have hX := Below.refl w.heap.size w
    obtain ⟨hK, zK, tK⟩ := run_new w i d j e _ rfl
    generalize (w.alloc (Obj.cells #[Value.int IntKind.i8 i, Value.int IntKind.i64 d, Value.int IntKind.i8 j, Value.int IntKind.i64 e] 26)) = V1 at *
    have hY := bst hX tK
    have hb' : Below w.heap.size w V1 := hb.trans (hY.mono hb.size)
    have lK : w.heap.size < V1.heap.size := by omega
    have eK : w.heap.size ≤ w.heap.size := Nat.le_trans hb.size hX.size
    have zz := zK
    clear hX hb hY tK zK
    have hb := hb'
    clear hb'
    have hX := Below.refl V1.heap.size V1
    have zz1 : V1.heap.size = w.heap.size + 1 := zz
    clear zz
    obtain ⟨hL, zL, tL⟩ := run_new V1 a b c f _ rfl
    generalize (V1.alloc (Obj.cells #[Value.int IntKind.i8 a, Value.int IntKind.i64 b, Value.int IntKind.i8 c, Value.int IntKind.i64 f] 26)) = V2 at *
    have hY := bst hX tL
    have hb' : Below w.heap.size w V2 := hb.trans (hY.mono hb.size)
    have lL : V1.heap.size < V2.heap.size := by omega
    have eL : w.heap.size ≤ V1.heap.size := Nat.le_trans hb.size hX.size
    have hK' := hK.below lK hY
    have lK' := Nat.lt_of_lt_of_le lK hY.size
    (try clear K0 K1 K2 K3)
    have zz := zL
    clear hX hb hY tL zL hK lK
    have hK := hK'
    have lK := lK'
    clear hK' lK'
    have hb := hb'
    clear hb'
    have hX := Below.refl V2.heap.size V2
    rw [zz1] at hL lL eL
    have zz2 : V2.heap.size = w.heap.size + 1 + 1 := by rw [zz, zz1]
    clear zz1
    clear zz
    obtain ⟨hM, zM, tM⟩ := run_new V2 0 0 0 0 _ rfl
    generalize (V2.alloc (Obj.cells #[Value.int IntKind.i8 0, Value.int IntKind.i64 0, Value.int IntKind.i8 0, Value.int IntKind.i64 0] 26)) = V3 at *
    have hY := bst hX tM
    have hb' : Below w.heap.size w V3 := hb.trans (hY.mono hb.size)
    have lM : V2.heap.size < V3.heap.size := by omega
    have eM : w.heap.size ≤ V2.heap.size := Nat.le_trans hb.size hX.size
    have hK' := hK.below lK hY
    have lK' := Nat.lt_of_lt_of_le lK hY.size
    have hL' := hL.below lL hY
    have lL' := Nat.lt_of_lt_of_le lL hY.size
    (try clear K0 K1 K2 K3 L0 L1 L2 L3)
    have zz := zM
    clear hX hb hY tM zM hK lK hL lL
    have hK := hK'
    have lK := lK'
    clear hK' lK'
    have hL := hL'
    have lL := lL'
    clear hL' lL'
    have hb := hb'
    clear hb'
    have hX := Below.refl V3.heap.size V3
    rw [zz2] at hM lM eM
    have zz3 : V3.heap.size = w.heap.size + 1 + 1 + 1 := by rw [zz, zz2]
    clear zz2
    clear zz
    obtain ⟨K0, K1, K2, K3⟩ := (id hK).quad
    obtain ⟨L0, L1, L2, L3⟩ := (id hL).quad
    obtain ⟨M0, M1, M2, M3⟩ := (id hM).quad; have yM0 := (id hM).frozen 0; have yM1 := (id hM).frozen 1; have yM2 := (id hM).frozen 2; have yM3 := (id hM).frozen 3
    go_upto_region 4 with (first
          | (go_at_call 43; ((with_reducible refine (HR.out _).mono ?_); rintro z w2 ⟨rfl, hk⟩; have hX' := bst (bst hX (by go_grown)) hk; clear hX hk; have hX := hX'; clear hX'; (try clear K0 K1 K2 K3); have cK := hK.below lK hX; obtain ⟨K0, K1, K2, K3⟩ := cK.quad; clear cK; (try clear L0 L1 L2 L3); have cL := hL.below lL hX; obtain ⟨L0, L1, L2, L3⟩ := cL.quad; clear cL; (try clear M0 M1 M2 M3 yM0 yM1 yM2 yM3); (try clear cM); have cM := hM.below lM hX; obtain ⟨M0, M1, M2, M3⟩ := cM.quad; have yM0 := cM.frozen 0; have yM1 := cM.frozen 1; have yM2 := cM.frozen 2; have yM3 := cM.frozen 3))
          | (go_at_call 45; ((with_reducible refine (HO.out _).mono ?_); rintro z w2 ⟨rfl, hk⟩; have hX' := bst (bst hX (by go_grown)) hk; clear hX hk; have hX := hX'; clear hX'; (try clear K0 K1 K2 K3); have cK := hK.below lK hX; obtain ⟨K0, K1, K2, K3⟩ := cK.quad; clear cK; (try clear L0 L1 L2 L3); have cL := hL.below lL hX; obtain ⟨L0, L1, L2, L3⟩ := cL.quad; clear cL; (try clear M0 M1 M2 M3 yM0 yM1 yM2 yM3); (try clear cM); have cM := hM.below lM hX; obtain ⟨M0, M1, M2, M3⟩ := cM.quad; have yM0 := cM.frozen 0; have yM1 := cM.frozen 1; have yM2 := cM.frozen 2; have yM3 := cM.frozen 3))
          | (go_at_call 44; ((with_reducible refine (HC.out _).mono ?_); rintro z w2 ⟨rfl, hk⟩; have hX' := bst (bst hX (by go_grown)) hk; clear hX hk; have hX := hX'; clear hX'; (try clear K0 K1 K2 K3); have cK := hK.below lK hX; obtain ⟨K0, K1, K2, K3⟩ := cK.quad; clear cK; (try clear L0 L1 L2 L3); have cL := hL.below lL hX; obtain ⟨L0, L1, L2, L3⟩ := cL.quad; clear cL; (try clear M0 M1 M2 M3 yM0 yM1 yM2 yM3); (try clear cM); have cM := hM.below lM hX; obtain ⟨M0, M1, M2, M3⟩ := cM.quad; have yM0 := cM.frozen 0; have yM1 := cM.frozen 1; have yM2 := cM.frozen 2; have yM3 := cM.frozen 3)))
    (try clear zz3)
    (try clear K0 K1 K2 K3)
    (try clear hK lK)
    (try clear L0 L1 L2 L3)
    (try clear hL lL)
    obtain ⟨hT, zT, tT⟩ := run_new w2 i3 d3 j3 e3 _ rfl
    generalize (w2.alloc (Obj.cells #[Value.int IntKind.i8 i3, Value.int IntKind.i64 d3, Value.int IntKind.i8 j3, Value.int IntKind.i64 e3] 26)) = V4 at *
    have hY := bst hX tT
    have hb' : Below w.heap.size w V4 := hb.trans (hY.mono hb.size)
    have lT : w2.heap.size < V4.heap.size := by omega
    have eT : w.heap.size ≤ w2.heap.size := Nat.le_trans hb.size hX.size
    have hM' := hM.below lM hY
    have lM' := Nat.lt_of_lt_of_le lM hY.size
    (try clear M0 M1 M2 M3 yM0 yM1 yM2 yM3)
    have zz := zT
    clear hX hb hY tT zT hM lM
    have hM := hM'
    have lM := lM'
    clear hM' lM'
    have hb := hb'
    clear hb'
    have hX := Below.refl V4.heap.size V4
    generalize w2.heap.size = gT at *
    clear zz
    obtain ⟨M0, M1, M2, M3⟩ := (id hM).quad; have yM0 := (id hM).frozen 0; have yM1 := (id hM).frozen 1; have yM2 := (id hM).frozen 2; have yM3 := (id hM).frozen 3
    obtain ⟨T0, T1, T2, T3⟩ := (id hT).quad
    go_wp2_with fail
    exact bodyPost_ret (res_run2 rfl rfl rfl (hM.store i3 d3 j3 e3).quad) rfl ⟨rfl, set4_below (hb.trans (hX.mono hb.size)) eM i3 d3 j3 e3⟩
  · skip
    have HR := Lib.hid hR
    have HO := Lib.hid hO
    have HC := Lib.hid hC
    clear hR hO hC
    have q : (ke == 0) = false := by rw [beq_eq_false_iff_ne]; exact p1
    go_enter Tryz.func14, Tryz.ntmps14
    go_upto_region 1 with fail
    have hb := Below.refl w.heap.size w
    have hX := Below.refl w.heap.size w
    obtain ⟨hK, zK, tK⟩ := run_new w i d j e _ rfl
    generalize (w.alloc (Obj.cells #[Value.int IntKind.i8 i, Value.int IntKind.i64 d, Value.int IntKind.i8 j, Value.int IntKind.i64 e] 26)) = V1 at *
    have hY := bst hX tK
    have hb' : Below w.heap.size w V1 := hb.trans (hY.mono hb.size)
    have lK : w.heap.size < V1.heap.size := by omega
    have eK : w.heap.size ≤ w.heap.size := Nat.le_trans hb.size hX.size
    have zz := zK
    clear hX hb hY tK zK
    have hb := hb'
    clear hb'
    have hX := Below.refl V1.heap.size V1
    have zz1 : V1.heap.size = w.heap.size + 1 := zz
    clear zz
    obtain ⟨hL, zL, tL⟩ := run_new V1 a b c f _ rfl
    generalize (V1.alloc (Obj.cells #[Value.int IntKind.i8 a, Value.int IntKind.i64 b, Value.int IntKind.i8 c, Value.int IntKind.i64 f] 26)) = V2 at *
    have hY := bst hX tL
    have hb' : Below w.heap.size w V2 := hb.trans (hY.mono hb.size)
    have lL : V1.heap.size < V2.heap.size := by omega
    have eL : w.heap.size ≤ V1.heap.size := Nat.le_trans hb.size hX.size
    have hK' := hK.below lK hY
    have lK' := Nat.lt_of_lt_of_le lK hY.size
    (try clear K0 K1 K2 K3)
    have zz := zL
    clear hX hb hY tL zL hK lK
    have hK := hK'
    have lK := lK'
    clear hK' lK'
    have hb := hb'
    clear hb'
    have hX := Below.refl V2.heap.size V2
    rw [zz1] at hL lL eL
    have zz2 : V2.heap.size = w.heap.size + 1 + 1 := by rw [zz, zz1]
    clear zz1
    clear zz
    obtain ⟨hM, zM, tM⟩ := run_new V2 0 0 0 0 _ rfl
    generalize (V2.alloc (Obj.cells #[Value.int IntKind.i8 0, Value.int IntKind.i64 0, Value.int IntKind.i8 0, Value.int IntKind.i64 0] 26)) = V3 at *
    have hY := bst hX tM
    have hb' : Below w.heap.size w V3 := hb.trans (hY.mono hb.size)
    have lM : V2.heap.size < V3.heap.size := by omega
    have eM : w.heap.size ≤ V2.heap.size := Nat.le_trans hb.size hX.size
    have hK' := hK.below lK hY
    have lK' := Nat.lt_of_lt_of_le lK hY.size
    have hL' := hL.below lL hY
    have lL' := Nat.lt_of_lt_of_le lL hY.size
    (try clear K0 K1 K2 K3 L0 L1 L2 L3)
    have zz := zM
    clear hX hb hY tM zM hK lK hL lL
    have hK := hK'
    have lK := lK'
    clear hK' lK'
    have hL := hL'
    have lL := lL'
    clear hL' lL'
    have hb := hb'
    clear hb'
    have hX := Below.refl V3.heap.size V3
    rw [zz2] at hM lM eM
    have zz3 : V3.heap.size = w.heap.size + 1 + 1 + 1 := by rw [zz, zz2]
    clear zz2
    clear zz
    obtain ⟨K0, K1, K2, K3⟩ := (id hK).quad
    obtain ⟨L0, L1, L2, L3⟩ := (id hL).quad
    obtain ⟨M0, M1, M2, M3⟩ := (id hM).quad; have yM0 := (id hM).frozen 0; have yM1 := (id hM).frozen 1; have yM2 := (id hM).frozen 2; have yM3 := (id hM).frozen 3
    go_upto_region 4 with (first
          | (go_at_call 43; ((with_reducible refine (HR.out _).mono ?_); rintro z w2 ⟨rfl, hk⟩; have hX' := bst (bst hX (by go_grown)) hk; clear hX hk; have hX := hX'; clear hX'; (try clear K0 K1 K2 K3); have cK := hK.below lK hX; obtain ⟨K0, K1, K2, K3⟩ := cK.quad; clear cK; (try clear L0 L1 L2 L3); have cL := hL.below lL hX; obtain ⟨L0, L1, L2, L3⟩ := cL.quad; clear cL; (try clear M0 M1 M2 M3 yM0 yM1 yM2 yM3); (try clear cM); have cM := hM.below lM hX; obtain ⟨M0, M1, M2, M3⟩ := cM.quad; have yM0 := cM.frozen 0; have yM1 := cM.frozen 1; have yM2 := cM.frozen 2; have yM3 := cM.frozen 3))
          | (go_at_call 45; ((with_reducible refine (HO.out _).mono ?_); rintro z w2 ⟨rfl, hk⟩; have hX' := bst (bst hX (by go_grown)) hk; clear hX hk; have hX := hX'; clear hX'; (try clear K0 K1 K2 K3); have cK := hK.below lK hX; obtain ⟨K0, K1, K2, K3⟩ := cK.quad; clear cK; (try clear L0 L1 L2 L3); have cL := hL.below lL hX; obtain ⟨L0, L1, L2, L3⟩ := cL.quad; clear cL; (try clear M0 M1 M2 M3 yM0 yM1 yM2 yM3); (try clear cM); have cM := hM.below lM hX; obtain ⟨M0, M1, M2, M3⟩ := cM.quad; have yM0 := cM.frozen 0; have yM1 := cM.frozen 1; have yM2 := cM.frozen 2; have yM3 := cM.frozen 3))
          | (go_at_call 44; ((with_reducible refine (HC.out _).mono ?_); rintro z w2 ⟨rfl, hk⟩; have hX' := bst (bst hX (by go_grown)) hk; clear hX hk; have hX := hX'; clear hX'; (try clear K0 K1 K2 K3); have cK := hK.below lK hX; obtain ⟨K0, K1, K2, K3⟩ := cK.quad; clear cK; (try clear L0 L1 L2 L3); have cL := hL.below lL hX; obtain ⟨L0, L1, L2, L3⟩ := cL.quad; clear cL; (try clear M0 M1 M2 M3 yM0 yM1 yM2 yM3); (try clear cM); have cM := hM.below lM hX; obtain ⟨M0, M1, M2, M3⟩ := cM.quad; have yM0 := cM.frozen 0; have yM1 := cM.frozen 1; have yM2 := cM.frozen 2; have yM3 := cM.frozen 3)))
    (try clear zz3)
    (try clear K0 K1 K2 K3)
    (try clear hK lK)
    (try clear L0 L1 L2 L3)
    (try clear hL lL)
    obtain ⟨hT, zT, tT⟩ := run_new w2 i3 d3 j3 e3 _ rfl
    generalize (w2.alloc (Obj.cells #[Value.int IntKind.i8 i3, Value.int IntKind.i64 d3, Value.int IntKind.i8 j3, Value.int IntKind.i64 e3] 26)) = V4 at *
    have hY := bst hX tT
    have hb' : Below w.heap.size w V4 := hb.trans (hY.mono hb.size)
    have lT : w2.heap.size < V4.heap.size := by omega
    have eT : w.heap.size ≤ w2.heap.size := Nat.le_trans hb.size hX.size
    have hM' := hM.below lM hY
    have lM' := Nat.lt_of_lt_of_le lM hY.size
    (try clear M0 M1 M2 M3 yM0 yM1 yM2 yM3)
    have zz := zT
    clear hX hb hY tT zT hM lM
    have hM := hM'
    have lM := lM'
    clear hM' lM'
    have hb := hb'
    clear hb'
    have hX := Below.refl V4.heap.size V4
    generalize w2.heap.size = gT at *
    clear zz
    obtain ⟨M0, M1, M2, M3⟩ := (id hM).quad; have yM0 := (id hM).frozen 0; have yM1 := (id hM).frozen 1; have yM2 := (id hM).frozen 2; have yM3 := (id hM).frozen 3
    obtain ⟨T0, T1, T2, T3⟩ := (id hT).quad
    go_wp2_with fail
    exact bodyPost_ret (res_run2 rfl rfl rfl (hM.store i3 d3 j3 e3).quad) rfl ⟨rfl, set4_below (hb.trans (hX.mono hb.size)) eM i3 d3 j3 e3⟩
theorem len_cases (r : Ru) :
    (¬ ruE r = 0 ∧ leV r = 0 ∧ leE r = ruE r) ∨
    (ruE r = 0 ∧ ¬ r.i = 0 ∧ leV r = 0 ∧ leE r = 16) ∨
    (ruE r = 0 ∧ r.i = 0 ∧ ¬ r.j = 0 ∧ leV r = 0 ∧ leE r = 16) ∨
    (ruE r = 0 ∧ r.i = 0 ∧ r.j = 0 ∧ ¬ fitE (r.e - r.d) = 0 ∧ leV r = 0 ∧ leE r = fitE (r.e - r.d)) ∨
    (ruE r = 0 ∧ r.i = 0 ∧ r.j = 0 ∧ fitE (r.e - r.d) = 0 ∧ fitV (r.e - r.d) = r.e - r.d ∧ I64 (r.e - r.d) ∧ leV r = fitV (r.e - r.d + 1) ∧ leE r = fitE (r.e - r.d + 1)) := by
  by_cases h : ruE r = 0
  case neg =>
    exact .inl ⟨h, if_neg h, if_neg h⟩
  have a1 := (ruE_right h).2.2
  have e1 : leV r = ruL r := if_pos h
  have e2 : leE r = ruLE r := if_pos h
  rw [e1, e2]
  clear e1 e2
  by_cases hi : r.i = 0
  case neg =>
    have e : ruLE r = 16 := if_neg (fun q => hi q.1)
    exact .inr (.inl ⟨h, hi, if_neg (by rw [e]; decide), e⟩)
  by_cases hj : r.j = 0
  case neg =>
    have e : ruLE r = 16 := if_neg (fun q => hj q.2)
    exact .inr (.inr (.inl ⟨h, hi, hj, if_neg (by rw [e]; decide), e⟩))
  have h0 := a1 hi hj
  have eE : ruLE r = if I64 (r.e - r.d + 1) then 0 else 15 := if_pos ⟨hi, hj⟩
  by_cases hf : I64 (r.e - r.d)
  · have f1 := fitE_in hf.1 hf.2
    have h1 := hf.1
    have h2 := hf.2
    by_cases hg : I64 (r.e - r.d + 1)
    · have e : ruLE r = 0 := by rw [eE, if_pos hg]
      have e3 : ruL r = r.e - r.d + 1 := if_pos e
      exact .inr (.inr (.inr (.inr ⟨h, hi, hj, f1, fitV_in hf.1 hf.2, hf, by rw [e3, fitV_in hg.1 hg.2], by rw [e, fitE_in hg.1 hg.2]⟩)))
    · have e : ruLE r = 15 := by rw [eE, if_neg hg]
      have e3 : ruL r = 0 := if_neg (by rw [e]; decide)
      unfold I64 at hg
      have e4 : fitV (r.e - r.d + 1) = 0 := fitV_out (by omega)
      have e5 : fitE (r.e - r.d + 1) = 15 := fitE_out (by omega)
      exact .inr (.inr (.inr (.inr ⟨h, hi, hj, f1, fitV_in hf.1 hf.2, hf, by rw [e3, e4], by rw [e, e5]⟩)))
  · have hg : ¬ I64 (r.e - r.d + 1) := by
      unfold I64 at hf ⊢
      omega
    have f1 : fitE (r.e - r.d) = 15 := by
      unfold I64 at hf
      exact fitE_out (by omega)
    have e : ruLE r = 15 := by rw [eE, if_neg hg]
    have e3 : ruL r = 0 := if_neg (by rw [e]; decide)
    exact .inr (.inr (.inr (.inl ⟨h, hi, hj, by rw [f1]; decide, e3, by rw [e, f1]⟩)))
set_option maxRecDepth 100000 in
theorem rlen_any (r : Ru) (w : World) (hr : r.In) : Calls Tryz.prog 24 #[V4 r] w fun x w' => x = .returned (.tuple #[.int .i64 (leV r), .int .i64 (leE r)]) ∧ Below w.heap.size w w' := by
  have hC := fun X => rchk_any r X
  have hS := fun X => sub_any r.e r.d X hr.2.2.2.1 hr.2.2.2.2 hr.2.1.1 hr.2.1.2
  have hA := fun (h : I64 (r.e - r.d)) X => add_any (r.e - r.d) 1 X h.1 h.2 (by decide) (by decide)
  have hcs := len_cases r
  clear hr
  generalize ruE r = v at *
  generalize leV r = lv at *
  generalize leE r = le at *
  generalize fitE (r.e - r.d) = se at *
  generalize fitE (r.e - r.d + 1) = ae at *
  generalize fitV (r.e - r.d + 1) = av at *
  generalize fitV (r.e - r.d) = sv at *
  generalize r.e - r.d = s at *
  obtain ⟨i, d, j, e⟩ := r
  (try dsimp only at *)
  rcases hcs with ⟨p1, rfl, rfl⟩ | ⟨rfl, p1, rfl, rfl⟩ | ⟨rfl, rfl, p1, rfl, rfl⟩ | ⟨rfl, rfl, rfl, p1, rfl, rfl⟩ | ⟨rfl, rfl, rfl, rfl, rfl, p1, rfl, rfl⟩
  · skip
    clear hA
    have HC := Lib.hid hC
    have HS := Lib.hid hS
    clear hC hS
    have q : (le != 0) = true := by rw [bne_iff_ne]; exact p1
    go_enter Tryz.func24, Tryz.ntmps24
    go_upto_region 1 with fail
    have hb := Below.refl w.heap.size w
    have hX := Below.refl w.heap.size w
    obtain ⟨hK, zK, tK⟩ := run_new w i d j e _ rfl
    generalize (w.alloc (Obj.cells #[Value.int IntKind.i8 i, Value.int IntKind.i64 d, Value.int IntKind.i8 j, Value.int IntKind.i64 e] 26)) = V1 at *
    have hY := bst hX tK
    have hb' : Below w.heap.size w V1 := hb.trans (hY.mono hb.size)
    have lK : w.heap.size < V1.heap.size := by omega
    have eK : w.heap.size ≤ w.heap.size := Nat.le_trans hb.size hX.size
    have zz := zK
    clear hX hb hY tK zK
    have hb := hb'
    clear hb'
    have hX := Below.refl V1.heap.size V1
    have zz1 : V1.heap.size = w.heap.size + 1 := zz
    clear zz
    obtain ⟨K0, K1, K2, K3⟩ := (id hK).quad
    go_wp2_with (first
          | (go_at_call 8; ((with_reducible refine (HC.out _).mono ?_); rintro z w2 ⟨rfl, hk⟩; have hX' := bst (bst hX (by go_grown)) hk; clear hX hk; have hX := hX'; clear hX'; (try clear K0 K1 K2 K3); have cK := hK.below lK hX; obtain ⟨K0, K1, K2, K3⟩ := cK.quad; clear cK))
          | (go_at_call 48; ((with_reducible refine (HS.out _).mono ?_); rintro z w2 ⟨rfl, hk⟩; have hX' := bst (bst hX (by go_grown)) hk; clear hX hk; have hX := hX'; clear hX'; (try clear K0 K1 K2 K3); have cK := hK.below lK hX; obtain ⟨K0, K1, K2, K3⟩ := cK.quad; clear cK)))
    go_ret2
    exact ⟨rfl, hb.trans (hX.mono hb.size)⟩
  · skip
    clear hA
    have HC := Lib.hid hC
    have HS := Lib.hid hS
    clear hC hS
    have q : (i != 0) = true := by rw [bne_iff_ne]; exact p1
    go_enter Tryz.func24, Tryz.ntmps24
    go_upto_region 1 with fail
    have hb := Below.refl w.heap.size w
    have hX := Below.refl w.heap.size w
    obtain ⟨hK, zK, tK⟩ := run_new w i d j e _ rfl
    generalize (w.alloc (Obj.cells #[Value.int IntKind.i8 i, Value.int IntKind.i64 d, Value.int IntKind.i8 j, Value.int IntKind.i64 e] 26)) = V1 at *
    have hY := bst hX tK
    have hb' : Below w.heap.size w V1 := hb.trans (hY.mono hb.size)
    have lK : w.heap.size < V1.heap.size := by omega
    have eK : w.heap.size ≤ w.heap.size := Nat.le_trans hb.size hX.size
    have zz := zK
    clear hX hb hY tK zK
    have hb := hb'
    clear hb'
    have hX := Below.refl V1.heap.size V1
    have zz1 : V1.heap.size = w.heap.size + 1 := zz
    clear zz
    obtain ⟨K0, K1, K2, K3⟩ := (id hK).quad
    go_wp2_with (first
          | (go_at_call 8; ((with_reducible refine (HC.out _).mono ?_); rintro z w2 ⟨rfl, hk⟩; have hX' := bst (bst hX (by go_grown)) hk; clear hX hk; have hX := hX'; clear hX'; (try clear K0 K1 K2 K3); have cK := hK.below lK hX; obtain ⟨K0, K1, K2, K3⟩ := cK.quad; clear cK))
          | (go_at_call 48; ((with_reducible refine (HS.out _).mono ?_); rintro z w2 ⟨rfl, hk⟩; have hX' := bst (bst hX (by go_grown)) hk; clear hX hk; have hX := hX'; clear hX'; (try clear K0 K1 K2 K3); have cK := hK.below lK hX; obtain ⟨K0, K1, K2, K3⟩ := cK.quad; clear cK)))
    go_ret2
    exact ⟨rfl, hb.trans (hX.mono hb.size)⟩
  · skip
    clear hA
    have HC := Lib.hid hC
    have HS := Lib.hid hS
    clear hC hS
    have q : (j != 0) = true := by rw [bne_iff_ne]; exact p1
    go_enter Tryz.func24, Tryz.ntmps24
    go_upto_region 1 with fail
    have hb := Below.refl w.heap.size w
    have hX := Below.refl w.heap.size w
    obtain ⟨hK, zK, tK⟩ := run_new w 0 d j e _ rfl
    generalize (w.alloc (Obj.cells #[Value.int IntKind.i8 0, Value.int IntKind.i64 d, Value.int IntKind.i8 j, Value.int IntKind.i64 e] 26)) = V1 at *
    have hY := bst hX tK
    have hb' : Below w.heap.size w V1 := hb.trans (hY.mono hb.size)
    have lK : w.heap.size < V1.heap.size := by omega
    have eK : w.heap.size ≤ w.heap.size := Nat.le_trans hb.size hX.size
    have zz := zK
    clear hX hb hY tK zK
    have hb := hb'
    clear hb'
    have hX := Below.refl V1.heap.size V1
    have zz1 : V1.heap.size = w.heap.size + 1 := zz
    clear zz
    obtain ⟨K0, K1, K2, K3⟩ := (id hK).quad
    go_wp2_with (first
          | (go_at_call 8; ((with_reducible refine (HC.out _).mono ?_); rintro z w2 ⟨rfl, hk⟩; have hX' := bst (bst hX (by go_grown)) hk; clear hX hk; have hX := hX'; clear hX'; (try clear K0 K1 K2 K3); have cK := hK.below lK hX; obtain ⟨K0, K1, K2, K3⟩ := cK.quad; clear cK))
          | (go_at_call 48; ((with_reducible refine (HS.out _).mono ?_); rintro z w2 ⟨rfl, hk⟩; have hX' := bst (bst hX (by go_grown)) hk; clear hX hk; have hX := hX'; clear hX'; (try clear K0 K1 K2 K3); have cK := hK.below lK hX; obtain ⟨K0, K1, K2, K3⟩ := cK.quad; clear cK)))
    go_ret2
    exact ⟨rfl, hb.trans (hX.mono hb.size)⟩
  · skip
    clear hA
    have HC := Lib.hid hC
    have HS := Lib.hid hS
    clear hC hS
    have q : (le != 0) = true := by rw [bne_iff_ne]; exact p1
    go_enter Tryz.func24, Tryz.ntmps24
    go_upto_region 1 with fail
    have hb := Below.refl w.heap.size w
    have hX := Below.refl w.heap.size w
    obtain ⟨hK, zK, tK⟩ := run_new w 0 d 0 e _ rfl
    generalize (w.alloc (Obj.cells #[Value.int IntKind.i8 0, Value.int IntKind.i64 d, Value.int IntKind.i8 0, Value.int IntKind.i64 e] 26)) = V1 at *
    have hY := bst hX tK
    have hb' : Below w.heap.size w V1 := hb.trans (hY.mono hb.size)
    have lK : w.heap.size < V1.heap.size := by omega
    have eK : w.heap.size ≤ w.heap.size := Nat.le_trans hb.size hX.size
    have zz := zK
    clear hX hb hY tK zK
    have hb := hb'
    clear hb'
    have hX := Below.refl V1.heap.size V1
    have zz1 : V1.heap.size = w.heap.size + 1 := zz
    clear zz
    obtain ⟨K0, K1, K2, K3⟩ := (id hK).quad
    go_wp2_with (first
          | (go_at_call 8; ((with_reducible refine (HC.out _).mono ?_); rintro z w2 ⟨rfl, hk⟩; have hX' := bst (bst hX (by go_grown)) hk; clear hX hk; have hX := hX'; clear hX'; (try clear K0 K1 K2 K3); have cK := hK.below lK hX; obtain ⟨K0, K1, K2, K3⟩ := cK.quad; clear cK))
          | (go_at_call 48; ((with_reducible refine (HS.out _).mono ?_); rintro z w2 ⟨rfl, hk⟩; have hX' := bst (bst hX (by go_grown)) hk; clear hX hk; have hX := hX'; clear hX'; (try clear K0 K1 K2 K3); have cK := hK.below lK hX; obtain ⟨K0, K1, K2, K3⟩ := cK.quad; clear cK)))
    go_ret2
    exact ⟨rfl, hb.trans (hX.mono hb.size)⟩
  · skip
    have hA := hA p1
    have HC := Lib.hid hC
    have HS := Lib.hid hS
    have HA := Lib.hid hA
    clear hC hS hA
    go_enter Tryz.func24, Tryz.ntmps24
    go_upto_region 1 with fail
    have hb := Below.refl w.heap.size w
    have hX := Below.refl w.heap.size w
    obtain ⟨hK, zK, tK⟩ := run_new w 0 d 0 e _ rfl
    generalize (w.alloc (Obj.cells #[Value.int IntKind.i8 0, Value.int IntKind.i64 d, Value.int IntKind.i8 0, Value.int IntKind.i64 e] 26)) = V1 at *
    have hY := bst hX tK
    have hb' : Below w.heap.size w V1 := hb.trans (hY.mono hb.size)
    have lK : w.heap.size < V1.heap.size := by omega
    have eK : w.heap.size ≤ w.heap.size := Nat.le_trans hb.size hX.size
    have zz := zK
    clear hX hb hY tK zK
    have hb := hb'
    clear hb'
    have hX := Below.refl V1.heap.size V1
    have zz1 : V1.heap.size = w.heap.size + 1 := zz
    clear zz
    obtain ⟨K0, K1, K2, K3⟩ := (id hK).quad
    go_wp2_with (first
          | (go_at_call 8; ((with_reducible refine (HC.out _).mono ?_); rintro z w2 ⟨rfl, hk⟩; have hX' := bst (bst hX (by go_grown)) hk; clear hX hk; have hX := hX'; clear hX'; (try clear K0 K1 K2 K3); have cK := hK.below lK hX; obtain ⟨K0, K1, K2, K3⟩ := cK.quad; clear cK))
          | (go_at_call 48; ((with_reducible refine (HS.out _).mono ?_); rintro z w2 ⟨rfl, hk⟩; have hX' := bst (bst hX (by go_grown)) hk; clear hX hk; have hX := hX'; clear hX'; (try clear K0 K1 K2 K3); have cK := hK.below lK hX; obtain ⟨K0, K1, K2, K3⟩ := cK.quad; clear cK))
          | (go_at_call 49; ((with_reducible refine (HA.out _).mono ?_); rintro z w2 ⟨rfl, hk⟩; have hX' := bst (bst hX (by go_grown)) hk; clear hX hk; have hX := hX'; clear hX'; (try clear K0 K1 K2 K3); have cK := hK.below lK hX; obtain ⟨K0, K1, K2, K3⟩ := cK.quad; clear cK)))
    go_ret2
    exact ⟨rfl, hb.trans (hX.mono hb.size)⟩
/-- The error of two ends. -/
def foV (a b : Int) : Int := if b = 5 then 5 else orV a b
set_option maxRecDepth 100000 in
theorem rfor_any (a b : Int) (w : World) : Calls Tryz.prog 74 #[.int .i64 a, .int .i64 b] w fun x w' => x = .returned (.int .i64 (foV a b)) ∧ Below w.heap.size w w' := by
  unfold foV
  by_cases h : b = 5
  · subst h
    rw [if_pos rfl]
    go_enter Tryz.func74, Tryz.ntmps74
    go_wp2
    go_ret
    exact ⟨rfl, Below.refl _ _⟩
  · have q : (b == 5) = false := by rw [beq_eq_false_iff_ne]; exact h
    rw [if_neg h]
    have HO := Lib.hid (fun (g : Nat) (X : World) h0 h1 => korE_any g a b X h0 h1)
    clear h
    generalize orV a b = v at *
    go_enter Tryz.func74, Tryz.ntmps74
    go_wp2_with (go_at_call 36; ((with_reducible refine (HO.out _ _ (cell_of_row _ _ 0 _ _ _ (heap_alloc_new _ _)) (cell_of_row _ _ 1 _ _ _ (heap_alloc_new _ _))).mono ?_); rintro z w3 ⟨rfl, rfl⟩))
    go_ret
    exact ⟨rfl, by go_grown⟩
end Go.Proofs.YtmbaohjekeiphaaGreatDoor
/- The functions of package runs, for the landed code: pairs of values, Shift, Text, Parse. -/
namespace Go.Proofs.YtmbaohjekeiphaaGreatDoor
open Go.RowKit

theorem rends_any (i d j e : Int) (w : World) : Calls Tryz.prog 51 #[U4 i d j e] w fun x w' => x = .returned (U4 i d j e) ∧ Below w.heap.size w w' := by
  go_enter Tryz.func51, Tryz.ntmps51
  go_upto_region 1 with fail
  have hb := Below.refl w.heap.size w
  have hX := Below.refl w.heap.size w
  obtain ⟨hK, zK, tK⟩ := run_new w i d j e _ rfl
  generalize (w.alloc (Obj.cells #[Value.int IntKind.i8 i, Value.int IntKind.i64 d, Value.int IntKind.i8 j, Value.int IntKind.i64 e] 26)) = V1 at *
  have hY := bst hX tK
  have hb' : Below w.heap.size w V1 := hb.trans (hY.mono hb.size)
  have lK : w.heap.size < V1.heap.size := by omega
  have eK : w.heap.size ≤ w.heap.size := Nat.le_trans hb.size hX.size
  have zz := zK
  clear hX hb hY tK zK
  have hb := hb'
  clear hb'
  have hX := Below.refl V1.heap.size V1
  have zz1 : V1.heap.size = w.heap.size + 1 := zz
  clear zz
  obtain ⟨hR, zR, tR⟩ := par_new V1 0 0 0 0 _ rfl
  generalize (V1.alloc (Obj.cells #[Value.int IntKind.i8 0, Value.int IntKind.i64 0, Value.int IntKind.i8 0, Value.int IntKind.i64 0] 71)) = V2 at *
  have hY := bst hX tR
  have hb' : Below w.heap.size w V2 := hb.trans (hY.mono hb.size)
  have lR : V1.heap.size < V2.heap.size := by omega
  have eR : w.heap.size ≤ V1.heap.size := Nat.le_trans hb.size hX.size
  have hK' := hK.below lK hY
  have lK' := Nat.lt_of_lt_of_le lK hY.size
  (try clear K0 K1 K2 K3)
  have zz := zR
  clear hX hb hY tR zR hK lK
  have hK := hK'
  have lK := lK'
  clear hK' lK'
  have hb := hb'
  clear hb'
  have hX := Below.refl V2.heap.size V2
  rw [zz1] at hR lR eR
  have zz2 : V2.heap.size = w.heap.size + 1 + 1 := by rw [zz, zz1]
  clear zz1
  clear zz
  obtain ⟨K0, K1, K2, K3⟩ := (id hK).quad
  obtain ⟨R0, R1, R2, R3⟩ := (id hR).quad; have yR0 := (id hR).frozen 0; have yR1 := (id hR).frozen 1; have yR2 := (id hR).frozen 2; have yR3 := (id hR).frozen 3
  go_wp2_with fail
  exact bodyPost_ret (res_par1 rfl rfl (hR.store i d j e).quad) rfl ⟨rfl, set4_below (hb.trans (hX.mono hb.size)) eR i d j e⟩
theorem rrun_any (i d j e : Int) (w : World) : Calls Tryz.prog 53 #[U4 i d j e] w fun x w' => x = .returned (U4 i d j e) ∧ Below w.heap.size w w' := by
  go_enter Tryz.func53, Tryz.ntmps53
  go_upto_region 1 with fail
  have hb := Below.refl w.heap.size w
  have hX := Below.refl w.heap.size w
  obtain ⟨hK, zK, tK⟩ := par_new w i d j e _ rfl
  generalize (w.alloc (Obj.cells #[Value.int IntKind.i8 i, Value.int IntKind.i64 d, Value.int IntKind.i8 j, Value.int IntKind.i64 e] 71)) = V1 at *
  have hY := bst hX tK
  have hb' : Below w.heap.size w V1 := hb.trans (hY.mono hb.size)
  have lK : w.heap.size < V1.heap.size := by omega
  have eK : w.heap.size ≤ w.heap.size := Nat.le_trans hb.size hX.size
  have zz := zK
  clear hX hb hY tK zK
  have hb := hb'
  clear hb'
  have hX := Below.refl V1.heap.size V1
  have zz1 : V1.heap.size = w.heap.size + 1 := zz
  clear zz
  obtain ⟨hM, zM, tM⟩ := run_new V1 0 0 0 0 _ rfl
  generalize (V1.alloc (Obj.cells #[Value.int IntKind.i8 0, Value.int IntKind.i64 0, Value.int IntKind.i8 0, Value.int IntKind.i64 0] 26)) = V2 at *
  have hY := bst hX tM
  have hb' : Below w.heap.size w V2 := hb.trans (hY.mono hb.size)
  have lM : V1.heap.size < V2.heap.size := by omega
  have eM : w.heap.size ≤ V1.heap.size := Nat.le_trans hb.size hX.size
  have hK' := hK.below lK hY
  have lK' := Nat.lt_of_lt_of_le lK hY.size
  (try clear K0 K1 K2 K3)
  have zz := zM
  clear hX hb hY tM zM hK lK
  have hK := hK'
  have lK := lK'
  clear hK' lK'
  have hb := hb'
  clear hb'
  have hX := Below.refl V2.heap.size V2
  rw [zz1] at hM lM eM
  have zz2 : V2.heap.size = w.heap.size + 1 + 1 := by rw [zz, zz1]
  clear zz1
  clear zz
  obtain ⟨K0, K1, K2, K3⟩ := (id hK).quad
  obtain ⟨M0, M1, M2, M3⟩ := (id hM).quad; have yM0 := (id hM).frozen 0; have yM1 := (id hM).frozen 1; have yM2 := (id hM).frozen 2; have yM3 := (id hM).frozen 3
  go_wp2_with fail
  exact bodyPost_ret (res_run1 rfl rfl (hM.store i d j e).quad) rfl ⟨rfl, set4_below (hb.trans (hX.mono hb.size)) eM i d j e⟩
/-- An end that is moved: its day, and the error. -/
def shD (i d k : Int) : Int := if i = 0 then fitV (d + k) else d
def shX (i d k : Int) : Int := if i = 0 then fitE (d + k) else 0
set_option maxRecDepth 100000 in
theorem rshc_any (i d k : Int) (g : Nat) (w : World) (hd : I64 d) (hk : I64 k) (hg : BkI w g k ∧ g < w.heap.size) :
    Calls Tryz.prog 52 #[E2 i d, .pointer (some ⟨g, 0, none⟩)] w fun x w' => x = .returned (.tuple #[E2 i (shD i d k), .int .i64 (shX i d k)]) ∧ Below w.heap.size w w' := by
  have hA := fun X => add_any d k X hd.1 hd.2 hk.1 hk.2
  have hO := fun X => kof_any (fitV (d + k)) X
  unfold shD shX
  generalize fitV (d + k) = v at *
  generalize fitE (d + k) = x at *
  clear hd hk
  by_cases hi : i = 0
  · subst hi
    rw [if_pos rfl, if_pos rfl]
    have HA := Lib.hid hA
    have HO := Lib.hid hO
    clear hA hO
    go_enter Tryz.func52, Tryz.ntmps52
    go_upto_region 1 with fail
    have hb := Below.refl w.heap.size w
    have hX := Below.refl w.heap.size w
    obtain ⟨hC, lC⟩ := hg
    obtain ⟨hK, zK, tK⟩ := end_new2 w 0 d _ rfl
    generalize (w.alloc (Obj.cells #[Value.int IntKind.i8 0, Value.int IntKind.i64 d] 24)) = V1 at *
    have hY := bst hX tK
    have hb' : Below w.heap.size w V1 := hb.trans (hY.mono hb.size)
    have lK : w.heap.size < V1.heap.size := by omega
    have eK : w.heap.size ≤ w.heap.size := Nat.le_trans hb.size hX.size
    have hC' := hC.below lC hY
    have lC' := Nat.lt_of_lt_of_le lC hY.size
    (try clear C0)
    have zz := zK
    clear hX hb hY tK zK hC lC
    have hC := hC'
    have lC := lC'
    clear hC' lC'
    have hb := hb'
    clear hb'
    have hX := Below.refl V1.heap.size V1
    have zz1 : V1.heap.size = w.heap.size + 1 := zz
    clear zz
    obtain ⟨hM, zM, tM⟩ := end_new2 V1 0 0 _ rfl
    generalize (V1.alloc (Obj.cells #[Value.int IntKind.i8 0, Value.int IntKind.i64 0] 24)) = V2 at *
    have hY := bst hX tM
    have hb' : Below w.heap.size w V2 := hb.trans (hY.mono hb.size)
    have lM : V1.heap.size < V2.heap.size := by omega
    have eM : w.heap.size ≤ V1.heap.size := Nat.le_trans hb.size hX.size
    have hC' := hC.below lC hY
    have lC' := Nat.lt_of_lt_of_le lC hY.size
    have hK' := hK.below lK hY
    have lK' := Nat.lt_of_lt_of_le lK hY.size
    (try clear C0 K0 K1)
    have zz := zM
    clear hX hb hY tM zM hC lC hK lK
    have hC := hC'
    have lC := lC'
    clear hC' lC'
    have hK := hK'
    have lK := lK'
    clear hK' lK'
    have hb := hb'
    clear hb'
    have hX := Below.refl V2.heap.size V2
    rw [zz1] at hM lM eM
    have zz2 : V2.heap.size = w.heap.size + 1 + 1 := by rw [zz, zz1]
    clear zz1
    clear zz
    have C0 := (id hC).uno
    obtain ⟨K0, K1⟩ := (id hK).duo
    obtain ⟨M0, M1⟩ := (id hM).duo; have yM0 := (id hM).frozen 0; have yM1 := (id hM).frozen 1
    go_wp2_with (first
          | (go_at_call 49; ((with_reducible refine (HA.out _).mono ?_); rintro z w2 ⟨rfl, hk⟩; have hX' := bst (bst hX (by go_grown)) hk; clear hX hk; have hX := hX'; clear hX'; (try clear C0); have cC := hC.below lC hX; have C0 := cC.uno; clear cC; (try clear K0 K1); have cK := hK.below lK hX; obtain ⟨K0, K1⟩ := cK.duo; clear cK; (try clear M0 M1 yM0 yM1); (try clear cM); have cM := hM.below lM hX; obtain ⟨M0, M1⟩ := cM.duo; have yM0 := cM.frozen 0; have yM1 := cM.frozen 1))
          | (go_at_call 47; ((with_reducible refine (HO.out _).mono ?_); rintro z w2 ⟨rfl, hk⟩; have hX' := bst (bst hX (by go_grown)) hk; clear hX hk; have hX := hX'; clear hX'; (try clear C0); have cC := hC.below lC hX; have C0 := cC.uno; clear cC; (try clear K0 K1); have cK := hK.below lK hX; obtain ⟨K0, K1⟩ := cK.duo; clear cK; (try clear M0 M1 yM0 yM1); (try clear cM); have cM := hM.below lM hX; obtain ⟨M0, M1⟩ := cM.duo; have yM0 := cM.frozen 0; have yM1 := cM.frozen 1)))
    exact bodyPost_ret (res_end2 rfl rfl rfl (cM.store 0 v).duo) rfl ⟨rfl, set2_below (hb.trans (hX.mono hb.size)) eM 0 v⟩
  · have q : (i != 0) = true := by rw [bne_iff_ne]; exact hi
    rw [if_neg hi, if_neg hi]
    have HA := Lib.hid hA
    have HO := Lib.hid hO
    clear hA hO
    go_enter Tryz.func52, Tryz.ntmps52
    go_upto_region 1 with fail
    have hb := Below.refl w.heap.size w
    have hX := Below.refl w.heap.size w
    obtain ⟨hC, lC⟩ := hg
    obtain ⟨hK, zK, tK⟩ := end_new2 w i d _ rfl
    generalize (w.alloc (Obj.cells #[Value.int IntKind.i8 i, Value.int IntKind.i64 d] 24)) = V1 at *
    have hY := bst hX tK
    have hb' : Below w.heap.size w V1 := hb.trans (hY.mono hb.size)
    have lK : w.heap.size < V1.heap.size := by omega
    have eK : w.heap.size ≤ w.heap.size := Nat.le_trans hb.size hX.size
    have hC' := hC.below lC hY
    have lC' := Nat.lt_of_lt_of_le lC hY.size
    (try clear C0)
    have zz := zK
    clear hX hb hY tK zK hC lC
    have hC := hC'
    have lC := lC'
    clear hC' lC'
    have hb := hb'
    clear hb'
    have hX := Below.refl V1.heap.size V1
    have zz1 : V1.heap.size = w.heap.size + 1 := zz
    clear zz
    obtain ⟨hM, zM, tM⟩ := end_new2 V1 0 0 _ rfl
    generalize (V1.alloc (Obj.cells #[Value.int IntKind.i8 0, Value.int IntKind.i64 0] 24)) = V2 at *
    have hY := bst hX tM
    have hb' : Below w.heap.size w V2 := hb.trans (hY.mono hb.size)
    have lM : V1.heap.size < V2.heap.size := by omega
    have eM : w.heap.size ≤ V1.heap.size := Nat.le_trans hb.size hX.size
    have hC' := hC.below lC hY
    have lC' := Nat.lt_of_lt_of_le lC hY.size
    have hK' := hK.below lK hY
    have lK' := Nat.lt_of_lt_of_le lK hY.size
    (try clear C0 K0 K1)
    have zz := zM
    clear hX hb hY tM zM hC lC hK lK
    have hC := hC'
    have lC := lC'
    clear hC' lC'
    have hK := hK'
    have lK := lK'
    clear hK' lK'
    have hb := hb'
    clear hb'
    have hX := Below.refl V2.heap.size V2
    rw [zz1] at hM lM eM
    have zz2 : V2.heap.size = w.heap.size + 1 + 1 := by rw [zz, zz1]
    clear zz1
    clear zz
    have C0 := (id hC).uno
    obtain ⟨K0, K1⟩ := (id hK).duo
    obtain ⟨M0, M1⟩ := (id hM).duo; have yM0 := (id hM).frozen 0; have yM1 := (id hM).frozen 1
    go_wp2_with fail
    exact bodyPost_ret (res_end2 rfl rfl rfl (hM.store i d).duo) rfl ⟨rfl, set2_below (hb.trans (hX.mono hb.size)) eM i d⟩
set_option maxHeartbeats 1000000 in
set_option maxRecDepth 100000 in
theorem reach_shift (i d j e k : Int) (g : Nat) (w : World) (hd : I64 d) (he : I64 e) (hk : I64 k) (hg : BkI w g k ∧ g < w.heap.size) :
    Calls Tryz.prog 50 #[U4 i d j e, .func (.func 52) #[] #[.pointer (some ⟨g, 0, none⟩)]] w fun z w' => z = .returned (.tuple #[V4 (if foV (shX i d k) (shX j e k) = 0 then ⟨i, shD i d k, j, shD j e k⟩ else ru0), .int .i64 (foV (shX i d k) (shX j e k))]) ∧ Below w.heap.size w w' := by
  have hA := fun X (h : BkI X g k ∧ g < X.heap.size) => rshc_any i d k g X hd hk h
  have hB := fun X (h : BkI X g k ∧ g < X.heap.size) => rshc_any j e k g X he hk h
  have hF := fun X => rfor_any (shX i d k) (shX j e k) X
  generalize shX i d k = x at *
  generalize shX j e k = y at *
  generalize shD i d k = d2 at *
  generalize shD j e k = e2 at *
  generalize foV x y = v at *
  clear hd he hk
  by_cases hv : v = 0
  · subst hv
    rw [if_pos rfl]
    have HA := Lib.hid hA
    have HB := Lib.hid hB
    have HF := Lib.hid hF
    clear hA hB hF
    go_enter Tryz.func50, Tryz.ntmps50
    go_upto_region 1 with fail
    have hb := Below.refl w.heap.size w
    have hX := Below.refl w.heap.size w
    obtain ⟨hC, lC⟩ := hg
    obtain ⟨hK, zK, tK⟩ := par_new w i d j e _ rfl
    generalize (w.alloc (Obj.cells #[Value.int IntKind.i8 i, Value.int IntKind.i64 d, Value.int IntKind.i8 j, Value.int IntKind.i64 e] 71)) = V1 at *
    have hY := bst hX tK
    have hb' : Below w.heap.size w V1 := hb.trans (hY.mono hb.size)
    have lK : w.heap.size < V1.heap.size := by omega
    have eK : w.heap.size ≤ w.heap.size := Nat.le_trans hb.size hX.size
    have hC' := hC.below lC hY
    have lC' := Nat.lt_of_lt_of_le lC hY.size
    (try clear C0)
    have zz := zK
    clear hX hb hY tK zK hC lC
    have hC := hC'
    have lC := lC'
    clear hC' lC'
    have hb := hb'
    clear hb'
    have hX := Below.refl V1.heap.size V1
    have zz1 : V1.heap.size = w.heap.size + 1 := zz
    clear zz
    obtain ⟨hR, zR, tR⟩ := par_new V1 0 0 0 0 _ rfl
    generalize (V1.alloc (Obj.cells #[Value.int IntKind.i8 0, Value.int IntKind.i64 0, Value.int IntKind.i8 0, Value.int IntKind.i64 0] 71)) = V2 at *
    have hY := bst hX tR
    have hb' : Below w.heap.size w V2 := hb.trans (hY.mono hb.size)
    have lR : V1.heap.size < V2.heap.size := by omega
    have eR : w.heap.size ≤ V1.heap.size := Nat.le_trans hb.size hX.size
    have hC' := hC.below lC hY
    have lC' := Nat.lt_of_lt_of_le lC hY.size
    have hK' := hK.below lK hY
    have lK' := Nat.lt_of_lt_of_le lK hY.size
    (try clear C0 K0 K1 K2 K3)
    have zz := zR
    clear hX hb hY tR zR hC lC hK lK
    have hC := hC'
    have lC := lC'
    clear hC' lC'
    have hK := hK'
    have lK := lK'
    clear hK' lK'
    have hb := hb'
    clear hb'
    have hX := Below.refl V2.heap.size V2
    rw [zz1] at hR lR eR
    have zz2 : V2.heap.size = w.heap.size + 1 + 1 := by rw [zz, zz1]
    clear zz1
    clear zz
    have C0 := (id hC).uno
    obtain ⟨K0, K1, K2, K3⟩ := (id hK).quad
    obtain ⟨R0, R1, R2, R3⟩ := (id hR).quad; have yR0 := (id hR).frozen 0; have yR1 := (id hR).frozen 1; have yR2 := (id hR).frozen 2; have yR3 := (id hR).frozen 3
    go_upto_region 2 with (go_at_call 52; ((with_reducible refine (HA.out _ ⟨hC, lC⟩).mono ?_); rintro z w2 ⟨rfl, hk⟩; have hX' := bst (bst hX (by go_grown)) hk; clear hX hk; have hX := hX'; clear hX'; (try clear C0); have cC := hC.below lC hX; have C0 := cC.uno; clear cC; (try clear K0 K1 K2 K3); have cK := hK.below lK hX; obtain ⟨K0, K1, K2, K3⟩ := cK.quad; clear cK; (try clear R0 R1 R2 R3 yR0 yR1 yR2 yR3); (try clear cR); have cR := hR.below lR hX; obtain ⟨R0, R1, R2, R3⟩ := cR.quad; have yR0 := cR.frozen 0; have yR1 := cR.frozen 1; have yR2 := cR.frozen 2; have yR3 := cR.frozen 3))
    (try clear zz2)
    obtain ⟨hE, zE, tE⟩ := end_new2 w2 i d2 _ rfl
    generalize (w2.alloc (Obj.cells #[Value.int IntKind.i8 i, Value.int IntKind.i64 d2] 24)) = V3 at *
    have hY := bst hX tE
    have hb' : Below w.heap.size w V3 := hb.trans (hY.mono hb.size)
    have lE : w2.heap.size < V3.heap.size := by omega
    have eE : w.heap.size ≤ w2.heap.size := Nat.le_trans hb.size hX.size
    have hC' := hC.below lC hY
    have lC' := Nat.lt_of_lt_of_le lC hY.size
    have hK' := hK.below lK hY
    have lK' := Nat.lt_of_lt_of_le lK hY.size
    have hR' := hR.below lR hY
    have lR' := Nat.lt_of_lt_of_le lR hY.size
    (try clear C0 K0 K1 K2 K3 R0 R1 R2 R3 yR0 yR1 yR2 yR3)
    have zz := zE
    clear hX hb hY tE zE hC lC hK lK hR lR
    have hC := hC'
    have lC := lC'
    clear hC' lC'
    have hK := hK'
    have lK := lK'
    clear hK' lK'
    have hR := hR'
    have lR := lR'
    clear hR' lR'
    have hb := hb'
    clear hb'
    have hX := Below.refl V3.heap.size V3
    generalize w2.heap.size = gE at *
    clear zz
    have C0 := (id hC).uno
    obtain ⟨K0, K1, K2, K3⟩ := (id hK).quad
    obtain ⟨R0, R1, R2, R3⟩ := (id hR).quad; have yR0 := (id hR).frozen 0; have yR1 := (id hR).frozen 1; have yR2 := (id hR).frozen 2; have yR3 := (id hR).frozen 3
    obtain ⟨E0, E1⟩ := (id hE).duo
    go_upto_region 3 with (go_at_call 52; ((with_reducible refine (HB.out _ ⟨hC, lC⟩).mono ?_); rintro z w2 ⟨rfl, hk⟩; have hX' := bst (bst hX (by go_grown)) hk; clear hX hk; have hX := hX'; clear hX'; (try clear C0); have cC := hC.below lC hX; have C0 := cC.uno; clear cC; (try clear K0 K1 K2 K3); have cK := hK.below lK hX; obtain ⟨K0, K1, K2, K3⟩ := cK.quad; clear cK; (try clear R0 R1 R2 R3 yR0 yR1 yR2 yR3); (try clear cR); have cR := hR.below lR hX; obtain ⟨R0, R1, R2, R3⟩ := cR.quad; have yR0 := cR.frozen 0; have yR1 := cR.frozen 1; have yR2 := cR.frozen 2; have yR3 := cR.frozen 3; (try clear E0 E1); have cE := hE.below lE hX; obtain ⟨E0, E1⟩ := cE.duo; clear cE))
    obtain ⟨hF, zF, tF⟩ := end_new2 w2 j e2 _ rfl
    generalize (w2.alloc (Obj.cells #[Value.int IntKind.i8 j, Value.int IntKind.i64 e2] 24)) = V4 at *
    have hY := bst hX tF
    have hb' : Below w.heap.size w V4 := hb.trans (hY.mono hb.size)
    have lF : w2.heap.size < V4.heap.size := by omega
    have eF : w.heap.size ≤ w2.heap.size := Nat.le_trans hb.size hX.size
    have hC' := hC.below lC hY
    have lC' := Nat.lt_of_lt_of_le lC hY.size
    have hK' := hK.below lK hY
    have lK' := Nat.lt_of_lt_of_le lK hY.size
    have hR' := hR.below lR hY
    have lR' := Nat.lt_of_lt_of_le lR hY.size
    have hE' := hE.below lE hY
    have lE' := Nat.lt_of_lt_of_le lE hY.size
    (try clear C0 K0 K1 K2 K3 R0 R1 R2 R3 yR0 yR1 yR2 yR3 E0 E1)
    have zz := zF
    clear hX hb hY tF zF hC lC hK lK hR lR hE lE
    have hC := hC'
    have lC := lC'
    clear hC' lC'
    have hK := hK'
    have lK := lK'
    clear hK' lK'
    have hR := hR'
    have lR := lR'
    clear hR' lR'
    have hE := hE'
    have lE := lE'
    clear hE' lE'
    have hb := hb'
    clear hb'
    have hX := Below.refl V4.heap.size V4
    generalize w2.heap.size = gF at *
    clear zz
    have C0 := (id hC).uno
    obtain ⟨K0, K1, K2, K3⟩ := (id hK).quad
    obtain ⟨R0, R1, R2, R3⟩ := (id hR).quad; have yR0 := (id hR).frozen 0; have yR1 := (id hR).frozen 1; have yR2 := (id hR).frozen 2; have yR3 := (id hR).frozen 3
    obtain ⟨E0, E1⟩ := (id hE).duo
    obtain ⟨F0, F1⟩ := (id hF).duo
    go_wp2_with (go_at_call 74; ((with_reducible refine (HF.out _).mono ?_); rintro z w2 ⟨rfl, hk⟩; have hX' := bst (bst hX (by go_grown)) hk; clear hX hk; have hX := hX'; clear hX'; (try clear C0); have cC := hC.below lC hX; have C0 := cC.uno; clear cC; (try clear K0 K1 K2 K3); have cK := hK.below lK hX; obtain ⟨K0, K1, K2, K3⟩ := cK.quad; clear cK; (try clear R0 R1 R2 R3 yR0 yR1 yR2 yR3); (try clear cR); have cR := hR.below lR hX; obtain ⟨R0, R1, R2, R3⟩ := cR.quad; have yR0 := cR.frozen 0; have yR1 := cR.frozen 1; have yR2 := cR.frozen 2; have yR3 := cR.frozen 3; (try clear E0 E1); have cE := hE.below lE hX; obtain ⟨E0, E1⟩ := cE.duo; clear cE; (try clear F0 F1); have cF := hF.below lF hX; obtain ⟨F0, F1⟩ := cF.duo; clear cF))
    exact bodyPost_ret (res_par2 rfl rfl rfl (cR.store i d2 j e2).quad) rfl ⟨rfl, set4_below (hb.trans (hX.mono hb.size)) eR i d2 j e2⟩
  · have q : (v != 0) = true := by rw [bne_iff_ne]; exact hv
    rw [if_neg hv]
    unfold ru0
    clear hv
    have HA := Lib.hid hA
    have HB := Lib.hid hB
    have HF := Lib.hid hF
    clear hA hB hF
    go_enter Tryz.func50, Tryz.ntmps50
    go_upto_region 1 with fail
    have hb := Below.refl w.heap.size w
    have hX := Below.refl w.heap.size w
    obtain ⟨hC, lC⟩ := hg
    obtain ⟨hK, zK, tK⟩ := par_new w i d j e _ rfl
    generalize (w.alloc (Obj.cells #[Value.int IntKind.i8 i, Value.int IntKind.i64 d, Value.int IntKind.i8 j, Value.int IntKind.i64 e] 71)) = V1 at *
    have hY := bst hX tK
    have hb' : Below w.heap.size w V1 := hb.trans (hY.mono hb.size)
    have lK : w.heap.size < V1.heap.size := by omega
    have eK : w.heap.size ≤ w.heap.size := Nat.le_trans hb.size hX.size
    have hC' := hC.below lC hY
    have lC' := Nat.lt_of_lt_of_le lC hY.size
    (try clear C0)
    have zz := zK
    clear hX hb hY tK zK hC lC
    have hC := hC'
    have lC := lC'
    clear hC' lC'
    have hb := hb'
    clear hb'
    have hX := Below.refl V1.heap.size V1
    have zz1 : V1.heap.size = w.heap.size + 1 := zz
    clear zz
    obtain ⟨hR, zR, tR⟩ := par_new V1 0 0 0 0 _ rfl
    generalize (V1.alloc (Obj.cells #[Value.int IntKind.i8 0, Value.int IntKind.i64 0, Value.int IntKind.i8 0, Value.int IntKind.i64 0] 71)) = V2 at *
    have hY := bst hX tR
    have hb' : Below w.heap.size w V2 := hb.trans (hY.mono hb.size)
    have lR : V1.heap.size < V2.heap.size := by omega
    have eR : w.heap.size ≤ V1.heap.size := Nat.le_trans hb.size hX.size
    have hC' := hC.below lC hY
    have lC' := Nat.lt_of_lt_of_le lC hY.size
    have hK' := hK.below lK hY
    have lK' := Nat.lt_of_lt_of_le lK hY.size
    (try clear C0 K0 K1 K2 K3)
    have zz := zR
    clear hX hb hY tR zR hC lC hK lK
    have hC := hC'
    have lC := lC'
    clear hC' lC'
    have hK := hK'
    have lK := lK'
    clear hK' lK'
    have hb := hb'
    clear hb'
    have hX := Below.refl V2.heap.size V2
    rw [zz1] at hR lR eR
    have zz2 : V2.heap.size = w.heap.size + 1 + 1 := by rw [zz, zz1]
    clear zz1
    clear zz
    have C0 := (id hC).uno
    obtain ⟨K0, K1, K2, K3⟩ := (id hK).quad
    obtain ⟨R0, R1, R2, R3⟩ := (id hR).quad; have yR0 := (id hR).frozen 0; have yR1 := (id hR).frozen 1; have yR2 := (id hR).frozen 2; have yR3 := (id hR).frozen 3
    go_upto_region 2 with (go_at_call 52; ((with_reducible refine (HA.out _ ⟨hC, lC⟩).mono ?_); rintro z w2 ⟨rfl, hk⟩; have hX' := bst (bst hX (by go_grown)) hk; clear hX hk; have hX := hX'; clear hX'; (try clear C0); have cC := hC.below lC hX; have C0 := cC.uno; clear cC; (try clear K0 K1 K2 K3); have cK := hK.below lK hX; obtain ⟨K0, K1, K2, K3⟩ := cK.quad; clear cK; (try clear R0 R1 R2 R3 yR0 yR1 yR2 yR3); (try clear cR); have cR := hR.below lR hX; obtain ⟨R0, R1, R2, R3⟩ := cR.quad; have yR0 := cR.frozen 0; have yR1 := cR.frozen 1; have yR2 := cR.frozen 2; have yR3 := cR.frozen 3))
    (try clear zz2)
    obtain ⟨hE, zE, tE⟩ := end_new2 w2 i d2 _ rfl
    generalize (w2.alloc (Obj.cells #[Value.int IntKind.i8 i, Value.int IntKind.i64 d2] 24)) = V3 at *
    have hY := bst hX tE
    have hb' : Below w.heap.size w V3 := hb.trans (hY.mono hb.size)
    have lE : w2.heap.size < V3.heap.size := by omega
    have eE : w.heap.size ≤ w2.heap.size := Nat.le_trans hb.size hX.size
    have hC' := hC.below lC hY
    have lC' := Nat.lt_of_lt_of_le lC hY.size
    have hK' := hK.below lK hY
    have lK' := Nat.lt_of_lt_of_le lK hY.size
    have hR' := hR.below lR hY
    have lR' := Nat.lt_of_lt_of_le lR hY.size
    (try clear C0 K0 K1 K2 K3 R0 R1 R2 R3 yR0 yR1 yR2 yR3)
    have zz := zE
    clear hX hb hY tE zE hC lC hK lK hR lR
    have hC := hC'
    have lC := lC'
    clear hC' lC'
    have hK := hK'
    have lK := lK'
    clear hK' lK'
    have hR := hR'
    have lR := lR'
    clear hR' lR'
    have hb := hb'
    clear hb'
    have hX := Below.refl V3.heap.size V3
    generalize w2.heap.size = gE at *
    clear zz
    have C0 := (id hC).uno
    obtain ⟨K0, K1, K2, K3⟩ := (id hK).quad
    obtain ⟨R0, R1, R2, R3⟩ := (id hR).quad; have yR0 := (id hR).frozen 0; have yR1 := (id hR).frozen 1; have yR2 := (id hR).frozen 2; have yR3 := (id hR).frozen 3
    obtain ⟨E0, E1⟩ := (id hE).duo
    go_upto_region 3 with (go_at_call 52; ((with_reducible refine (HB.out _ ⟨hC, lC⟩).mono ?_); rintro z w2 ⟨rfl, hk⟩; have hX' := bst (bst hX (by go_grown)) hk; clear hX hk; have hX := hX'; clear hX'; (try clear C0); have cC := hC.below lC hX; have C0 := cC.uno; clear cC; (try clear K0 K1 K2 K3); have cK := hK.below lK hX; obtain ⟨K0, K1, K2, K3⟩ := cK.quad; clear cK; (try clear R0 R1 R2 R3 yR0 yR1 yR2 yR3); (try clear cR); have cR := hR.below lR hX; obtain ⟨R0, R1, R2, R3⟩ := cR.quad; have yR0 := cR.frozen 0; have yR1 := cR.frozen 1; have yR2 := cR.frozen 2; have yR3 := cR.frozen 3; (try clear E0 E1); have cE := hE.below lE hX; obtain ⟨E0, E1⟩ := cE.duo; clear cE))
    obtain ⟨hF, zF, tF⟩ := end_new2 w2 j e2 _ rfl
    generalize (w2.alloc (Obj.cells #[Value.int IntKind.i8 j, Value.int IntKind.i64 e2] 24)) = V4 at *
    have hY := bst hX tF
    have hb' : Below w.heap.size w V4 := hb.trans (hY.mono hb.size)
    have lF : w2.heap.size < V4.heap.size := by omega
    have eF : w.heap.size ≤ w2.heap.size := Nat.le_trans hb.size hX.size
    have hC' := hC.below lC hY
    have lC' := Nat.lt_of_lt_of_le lC hY.size
    have hK' := hK.below lK hY
    have lK' := Nat.lt_of_lt_of_le lK hY.size
    have hR' := hR.below lR hY
    have lR' := Nat.lt_of_lt_of_le lR hY.size
    have hE' := hE.below lE hY
    have lE' := Nat.lt_of_lt_of_le lE hY.size
    (try clear C0 K0 K1 K2 K3 R0 R1 R2 R3 yR0 yR1 yR2 yR3 E0 E1)
    have zz := zF
    clear hX hb hY tF zF hC lC hK lK hR lR hE lE
    have hC := hC'
    have lC := lC'
    clear hC' lC'
    have hK := hK'
    have lK := lK'
    clear hK' lK'
    have hR := hR'
    have lR := lR'
    clear hR' lR'
    have hE := hE'
    have lE := lE'
    clear hE' lE'
    have hb := hb'
    clear hb'
    have hX := Below.refl V4.heap.size V4
    generalize w2.heap.size = gF at *
    clear zz
    have C0 := (id hC).uno
    obtain ⟨K0, K1, K2, K3⟩ := (id hK).quad
    obtain ⟨R0, R1, R2, R3⟩ := (id hR).quad; have yR0 := (id hR).frozen 0; have yR1 := (id hR).frozen 1; have yR2 := (id hR).frozen 2; have yR3 := (id hR).frozen 3
    obtain ⟨E0, E1⟩ := (id hE).duo
    obtain ⟨F0, F1⟩ := (id hF).duo
    go_wp2_with (go_at_call 74; ((with_reducible refine (HF.out _).mono ?_); rintro z w2 ⟨rfl, hk⟩; have hX' := bst (bst hX (by go_grown)) hk; clear hX hk; have hX := hX'; clear hX'; (try clear C0); have cC := hC.below lC hX; have C0 := cC.uno; clear cC; (try clear K0 K1 K2 K3); have cK := hK.below lK hX; obtain ⟨K0, K1, K2, K3⟩ := cK.quad; clear cK; (try clear R0 R1 R2 R3 yR0 yR1 yR2 yR3); (try clear cR); have cR := hR.below lR hX; obtain ⟨R0, R1, R2, R3⟩ := cR.quad; have yR0 := cR.frozen 0; have yR1 := cR.frozen 1; have yR2 := cR.frozen 2; have yR3 := cR.frozen 3; (try clear E0 E1); have cE := hE.below lE hX; obtain ⟨E0, E1⟩ := cE.duo; clear cE; (try clear F0 F1); have cF := hF.below lF hX; obtain ⟨F0, F1⟩ := cF.duo; clear cF))
    exact bodyPost_ret (res_par2 rfl rfl rfl (cR.store 0 0 0 0).quad) rfl ⟨rfl, set4_below (hb.trans (hX.mono hb.size)) eR 0 0 0 0⟩
set_option maxHeartbeats 1000000 in
set_option maxRecDepth 100000 in
theorem reach_text (i d j e : Int) (w : World) (hs : StartI w) (hd : I64 d) (he : I64 e) (h1 : enE i d = 0) (h2 : enE j e = 0) :
    Calls Tryz.prog 83 #[U4 i d j e, .func (.func 84) #[] #[]] w fun z w' => z = .returned (.tuple #[.agg #[.string (enT i d), .string (enT j e)], .int .i64 0]) ∧ Below w.heap.size w w' := by
  have hA := fun X (h : Below w.heap.size w X) => ktext_any i d X (hs.below h) hd
  have hB := fun X (h : Below w.heap.size w X) => ktext_any j e X (hs.below h) he
  have hF := fun X => rfor_any 0 0 X
  rw [h1] at hA
  rw [h2] at hB
  rw [show foV 0 0 = 0 from rfl] at hF
  generalize enT i d = s at *
  generalize enT j e = t at *
  clear hd he h1 h2 hs
  have HA := Lib.hid hA
  have HB := Lib.hid hB
  have HF := Lib.hid hF
  clear hA hB hF
  go_enter Tryz.func83, Tryz.ntmps83
  go_upto_region 1 with fail
  have hb := Below.refl w.heap.size w
  have hX := Below.refl w.heap.size w
  obtain ⟨hK, zK, tK⟩ := par_new w i d j e _ rfl
  generalize (w.alloc (Obj.cells #[Value.int IntKind.i8 i, Value.int IntKind.i64 d, Value.int IntKind.i8 j, Value.int IntKind.i64 e] 71)) = V1 at *
  have hY := bst hX tK
  have hb' : Below w.heap.size w V1 := hb.trans (hY.mono hb.size)
  have lK : w.heap.size < V1.heap.size := by omega
  have eK : w.heap.size ≤ w.heap.size := Nat.le_trans hb.size hX.size
  have zz := zK
  clear hX hb hY tK zK
  have hb := hb'
  clear hb'
  have hX := Below.refl V1.heap.size V1
  have zz1 : V1.heap.size = w.heap.size + 1 := zz
  clear zz
  obtain ⟨hR, zR, tR⟩ := str_new V1 (⟨#[]⟩) (⟨#[]⟩) _ rfl
  generalize (V1.alloc (Obj.cells #[Value.string (⟨#[]⟩), Value.string (⟨#[]⟩)] 90)) = V2 at *
  have hY := bst hX tR
  have hb' : Below w.heap.size w V2 := hb.trans (hY.mono hb.size)
  have lR : V1.heap.size < V2.heap.size := by omega
  have eR : w.heap.size ≤ V1.heap.size := Nat.le_trans hb.size hX.size
  have hK' := hK.below lK hY
  have lK' := Nat.lt_of_lt_of_le lK hY.size
  (try clear K0 K1 K2 K3)
  have zz := zR
  clear hX hb hY tR zR hK lK
  have hK := hK'
  have lK := lK'
  clear hK' lK'
  have hb := hb'
  clear hb'
  have hX := Below.refl V2.heap.size V2
  rw [zz1] at hR lR eR
  have zz2 : V2.heap.size = w.heap.size + 1 + 1 := by rw [zz, zz1]
  clear zz1
  clear zz
  obtain ⟨K0, K1, K2, K3⟩ := (id hK).quad
  obtain ⟨R0, R1⟩ := (id hR).duo; have yR0 := (id hR).frozen 0; have yR1 := (id hR).frozen 1
  go_wp2_with (first
      | (go_at_call 84; ((with_reducible refine (HA.out _ (hb.trans ((bst hX (by go_grown)).mono hb.size))).mono ?_); rintro z w2 ⟨rfl, hk⟩; have hX' := bst (bst hX (by go_grown)) hk; clear hX hk; have hX := hX'; clear hX'; (try clear K0 K1 K2 K3); have cK := hK.below lK hX; obtain ⟨K0, K1, K2, K3⟩ := cK.quad; clear cK; (try clear R0 R1 yR0 yR1); (try clear cR); have cR := hR.below lR hX; obtain ⟨R0, R1⟩ := cR.duo; have yR0 := cR.frozen 0; have yR1 := cR.frozen 1))
      | (go_at_call 84; ((with_reducible refine (HB.out _ (hb.trans ((bst hX (by go_grown)).mono hb.size))).mono ?_); rintro z w2 ⟨rfl, hk⟩; have hX' := bst (bst hX (by go_grown)) hk; clear hX hk; have hX := hX'; clear hX'; (try clear K0 K1 K2 K3); have cK := hK.below lK hX; obtain ⟨K0, K1, K2, K3⟩ := cK.quad; clear cK; (try clear R0 R1 yR0 yR1); (try clear cR); have cR := hR.below lR hX; obtain ⟨R0, R1⟩ := cR.duo; have yR0 := cR.frozen 0; have yR1 := cR.frozen 1))
      | (go_at_call 74; ((with_reducible refine (HF.out _).mono ?_); rintro z w2 ⟨rfl, hk⟩; have hX' := bst (bst hX (by go_grown)) hk; clear hX hk; have hX := hX'; clear hX'; (try clear K0 K1 K2 K3); have cK := hK.below lK hX; obtain ⟨K0, K1, K2, K3⟩ := cK.quad; clear cK; (try clear R0 R1 yR0 yR1); (try clear cR); have cR := hR.below lR hX; obtain ⟨R0, R1⟩ := cR.duo; have yR0 := cR.frozen 0; have yR1 := cR.frozen 1)))
  exact bodyPost_ret (res_str2 rfl rfl rfl (cR.store s t).duo) rfl ⟨rfl, set2S_below (hb.trans (hX.mono hb.size)) eR s t⟩
set_option maxHeartbeats 1000000 in
set_option maxRecDepth 100000 in
theorem reach_parse (s t : ByteArray) (w : World) (hs : StartI w) (hl : s.size ≤ 140737488355328) (hm : t.size ≤ 140737488355328) :
    Calls Tryz.prog 60 #[.agg #[.string s, .string t], .func (.func 61) #[] #[]] w fun z w' => z = .returned (.tuple #[V4 (if foV (prE s) (prE t) = 0 then ⟨prI s, prD s, prI t, prD t⟩ else ru0), .int .i64 (foV (prE s) (prE t))]) ∧ Below w.heap.size w w' := by
  have hA := fun X (h : Below w.heap.size w X) => kparse_any s X (hs.below h) hl
  have hB := fun X (h : Below w.heap.size w X) => kparse_any t X (hs.below h) hm
  have hF := fun X => rfor_any (prE s) (prE t) X
  generalize prE s = x at *
  generalize prE t = y at *
  generalize prI s = i at *
  generalize prI t = j at *
  generalize prD s = d at *
  generalize prD t = e at *
  generalize foV x y = v at *
  clear hl hm hs
  by_cases hv : v = 0
  · subst hv
    rw [if_pos rfl]
    have HA := Lib.hid hA
    have HB := Lib.hid hB
    have HF := Lib.hid hF
    clear hA hB hF
    go_enter Tryz.func60, Tryz.ntmps60
    go_upto_region 1 with fail
    have hb := Below.refl w.heap.size w
    have hX := Below.refl w.heap.size w
    obtain ⟨hK, zK, tK⟩ := str_new w s t _ rfl
    generalize (w.alloc (Obj.cells #[Value.string s, Value.string t] 90)) = V1 at *
    have hY := bst hX tK
    have hb' : Below w.heap.size w V1 := hb.trans (hY.mono hb.size)
    have lK : w.heap.size < V1.heap.size := by omega
    have eK : w.heap.size ≤ w.heap.size := Nat.le_trans hb.size hX.size
    have zz := zK
    clear hX hb hY tK zK
    have hb := hb'
    clear hb'
    have hX := Below.refl V1.heap.size V1
    have zz1 : V1.heap.size = w.heap.size + 1 := zz
    clear zz
    obtain ⟨hR, zR, tR⟩ := par_new V1 0 0 0 0 _ rfl
    generalize (V1.alloc (Obj.cells #[Value.int IntKind.i8 0, Value.int IntKind.i64 0, Value.int IntKind.i8 0, Value.int IntKind.i64 0] 71)) = V2 at *
    have hY := bst hX tR
    have hb' : Below w.heap.size w V2 := hb.trans (hY.mono hb.size)
    have lR : V1.heap.size < V2.heap.size := by omega
    have eR : w.heap.size ≤ V1.heap.size := Nat.le_trans hb.size hX.size
    have hK' := hK.below lK hY
    have lK' := Nat.lt_of_lt_of_le lK hY.size
    (try clear K0 K1)
    have zz := zR
    clear hX hb hY tR zR hK lK
    have hK := hK'
    have lK := lK'
    clear hK' lK'
    have hb := hb'
    clear hb'
    have hX := Below.refl V2.heap.size V2
    rw [zz1] at hR lR eR
    have zz2 : V2.heap.size = w.heap.size + 1 + 1 := by rw [zz, zz1]
    clear zz1
    clear zz
    obtain ⟨K0, K1⟩ := (id hK).duo
    obtain ⟨R0, R1, R2, R3⟩ := (id hR).quad; have yR0 := (id hR).frozen 0; have yR1 := (id hR).frozen 1; have yR2 := (id hR).frozen 2; have yR3 := (id hR).frozen 3
    go_upto_region 2 with (go_at_call 61; ((with_reducible refine (HA.out _ (hb.trans ((bst hX (by go_grown)).mono hb.size))).mono ?_); rintro z w2 ⟨rfl, hk⟩; have hX' := bst (bst hX (by go_grown)) hk; clear hX hk; have hX := hX'; clear hX'; (try clear K0 K1); have cK := hK.below lK hX; obtain ⟨K0, K1⟩ := cK.duo; clear cK; (try clear R0 R1 R2 R3 yR0 yR1 yR2 yR3); (try clear cR); have cR := hR.below lR hX; obtain ⟨R0, R1, R2, R3⟩ := cR.quad; have yR0 := cR.frozen 0; have yR1 := cR.frozen 1; have yR2 := cR.frozen 2; have yR3 := cR.frozen 3))
    (try clear zz2)
    obtain ⟨hE, zE, tE⟩ := end_new2 w2 i d _ rfl
    generalize (w2.alloc (Obj.cells #[Value.int IntKind.i8 i, Value.int IntKind.i64 d] 24)) = V3 at *
    have hY := bst hX tE
    have hb' : Below w.heap.size w V3 := hb.trans (hY.mono hb.size)
    have lE : w2.heap.size < V3.heap.size := by omega
    have eE : w.heap.size ≤ w2.heap.size := Nat.le_trans hb.size hX.size
    have hK' := hK.below lK hY
    have lK' := Nat.lt_of_lt_of_le lK hY.size
    have hR' := hR.below lR hY
    have lR' := Nat.lt_of_lt_of_le lR hY.size
    (try clear K0 K1 R0 R1 R2 R3 yR0 yR1 yR2 yR3)
    have zz := zE
    clear hX hb hY tE zE hK lK hR lR
    have hK := hK'
    have lK := lK'
    clear hK' lK'
    have hR := hR'
    have lR := lR'
    clear hR' lR'
    have hb := hb'
    clear hb'
    have hX := Below.refl V3.heap.size V3
    generalize w2.heap.size = gE at *
    clear zz
    obtain ⟨K0, K1⟩ := (id hK).duo
    obtain ⟨R0, R1, R2, R3⟩ := (id hR).quad; have yR0 := (id hR).frozen 0; have yR1 := (id hR).frozen 1; have yR2 := (id hR).frozen 2; have yR3 := (id hR).frozen 3
    obtain ⟨E0, E1⟩ := (id hE).duo
    go_upto_region 3 with (go_at_call 61; ((with_reducible refine (HB.out _ (hb.trans ((bst hX (by go_grown)).mono hb.size))).mono ?_); rintro z w2 ⟨rfl, hk⟩; have hX' := bst (bst hX (by go_grown)) hk; clear hX hk; have hX := hX'; clear hX'; (try clear K0 K1); have cK := hK.below lK hX; obtain ⟨K0, K1⟩ := cK.duo; clear cK; (try clear R0 R1 R2 R3 yR0 yR1 yR2 yR3); (try clear cR); have cR := hR.below lR hX; obtain ⟨R0, R1, R2, R3⟩ := cR.quad; have yR0 := cR.frozen 0; have yR1 := cR.frozen 1; have yR2 := cR.frozen 2; have yR3 := cR.frozen 3; (try clear E0 E1); have cE := hE.below lE hX; obtain ⟨E0, E1⟩ := cE.duo; clear cE))
    obtain ⟨hF, zF, tF⟩ := end_new2 w2 j e _ rfl
    generalize (w2.alloc (Obj.cells #[Value.int IntKind.i8 j, Value.int IntKind.i64 e] 24)) = V4 at *
    have hY := bst hX tF
    have hb' : Below w.heap.size w V4 := hb.trans (hY.mono hb.size)
    have lF : w2.heap.size < V4.heap.size := by omega
    have eF : w.heap.size ≤ w2.heap.size := Nat.le_trans hb.size hX.size
    have hK' := hK.below lK hY
    have lK' := Nat.lt_of_lt_of_le lK hY.size
    have hR' := hR.below lR hY
    have lR' := Nat.lt_of_lt_of_le lR hY.size
    have hE' := hE.below lE hY
    have lE' := Nat.lt_of_lt_of_le lE hY.size
    (try clear K0 K1 R0 R1 R2 R3 yR0 yR1 yR2 yR3 E0 E1)
    have zz := zF
    clear hX hb hY tF zF hK lK hR lR hE lE
    have hK := hK'
    have lK := lK'
    clear hK' lK'
    have hR := hR'
    have lR := lR'
    clear hR' lR'
    have hE := hE'
    have lE := lE'
    clear hE' lE'
    have hb := hb'
    clear hb'
    have hX := Below.refl V4.heap.size V4
    generalize w2.heap.size = gF at *
    clear zz
    obtain ⟨K0, K1⟩ := (id hK).duo
    obtain ⟨R0, R1, R2, R3⟩ := (id hR).quad; have yR0 := (id hR).frozen 0; have yR1 := (id hR).frozen 1; have yR2 := (id hR).frozen 2; have yR3 := (id hR).frozen 3
    obtain ⟨E0, E1⟩ := (id hE).duo
    obtain ⟨F0, F1⟩ := (id hF).duo
    go_wp2_with (go_at_call 74; ((with_reducible refine (HF.out _).mono ?_); rintro z w2 ⟨rfl, hk⟩; have hX' := bst (bst hX (by go_grown)) hk; clear hX hk; have hX := hX'; clear hX'; (try clear K0 K1); have cK := hK.below lK hX; obtain ⟨K0, K1⟩ := cK.duo; clear cK; (try clear R0 R1 R2 R3 yR0 yR1 yR2 yR3); (try clear cR); have cR := hR.below lR hX; obtain ⟨R0, R1, R2, R3⟩ := cR.quad; have yR0 := cR.frozen 0; have yR1 := cR.frozen 1; have yR2 := cR.frozen 2; have yR3 := cR.frozen 3; (try clear E0 E1); have cE := hE.below lE hX; obtain ⟨E0, E1⟩ := cE.duo; clear cE; (try clear F0 F1); have cF := hF.below lF hX; obtain ⟨F0, F1⟩ := cF.duo; clear cF))
    exact bodyPost_ret (res_par2 rfl rfl rfl (cR.store i d j e).quad) rfl ⟨rfl, set4_below (hb.trans (hX.mono hb.size)) eR i d j e⟩
  · have q : (v != 0) = true := by rw [bne_iff_ne]; exact hv
    rw [if_neg hv]
    unfold ru0
    clear hv
    have HA := Lib.hid hA
    have HB := Lib.hid hB
    have HF := Lib.hid hF
    clear hA hB hF
    go_enter Tryz.func60, Tryz.ntmps60
    go_upto_region 1 with fail
    have hb := Below.refl w.heap.size w
    have hX := Below.refl w.heap.size w
    obtain ⟨hK, zK, tK⟩ := str_new w s t _ rfl
    generalize (w.alloc (Obj.cells #[Value.string s, Value.string t] 90)) = V1 at *
    have hY := bst hX tK
    have hb' : Below w.heap.size w V1 := hb.trans (hY.mono hb.size)
    have lK : w.heap.size < V1.heap.size := by omega
    have eK : w.heap.size ≤ w.heap.size := Nat.le_trans hb.size hX.size
    have zz := zK
    clear hX hb hY tK zK
    have hb := hb'
    clear hb'
    have hX := Below.refl V1.heap.size V1
    have zz1 : V1.heap.size = w.heap.size + 1 := zz
    clear zz
    obtain ⟨hR, zR, tR⟩ := par_new V1 0 0 0 0 _ rfl
    generalize (V1.alloc (Obj.cells #[Value.int IntKind.i8 0, Value.int IntKind.i64 0, Value.int IntKind.i8 0, Value.int IntKind.i64 0] 71)) = V2 at *
    have hY := bst hX tR
    have hb' : Below w.heap.size w V2 := hb.trans (hY.mono hb.size)
    have lR : V1.heap.size < V2.heap.size := by omega
    have eR : w.heap.size ≤ V1.heap.size := Nat.le_trans hb.size hX.size
    have hK' := hK.below lK hY
    have lK' := Nat.lt_of_lt_of_le lK hY.size
    (try clear K0 K1)
    have zz := zR
    clear hX hb hY tR zR hK lK
    have hK := hK'
    have lK := lK'
    clear hK' lK'
    have hb := hb'
    clear hb'
    have hX := Below.refl V2.heap.size V2
    rw [zz1] at hR lR eR
    have zz2 : V2.heap.size = w.heap.size + 1 + 1 := by rw [zz, zz1]
    clear zz1
    clear zz
    obtain ⟨K0, K1⟩ := (id hK).duo
    obtain ⟨R0, R1, R2, R3⟩ := (id hR).quad; have yR0 := (id hR).frozen 0; have yR1 := (id hR).frozen 1; have yR2 := (id hR).frozen 2; have yR3 := (id hR).frozen 3
    go_upto_region 2 with (go_at_call 61; ((with_reducible refine (HA.out _ (hb.trans ((bst hX (by go_grown)).mono hb.size))).mono ?_); rintro z w2 ⟨rfl, hk⟩; have hX' := bst (bst hX (by go_grown)) hk; clear hX hk; have hX := hX'; clear hX'; (try clear K0 K1); have cK := hK.below lK hX; obtain ⟨K0, K1⟩ := cK.duo; clear cK; (try clear R0 R1 R2 R3 yR0 yR1 yR2 yR3); (try clear cR); have cR := hR.below lR hX; obtain ⟨R0, R1, R2, R3⟩ := cR.quad; have yR0 := cR.frozen 0; have yR1 := cR.frozen 1; have yR2 := cR.frozen 2; have yR3 := cR.frozen 3))
    (try clear zz2)
    obtain ⟨hE, zE, tE⟩ := end_new2 w2 i d _ rfl
    generalize (w2.alloc (Obj.cells #[Value.int IntKind.i8 i, Value.int IntKind.i64 d] 24)) = V3 at *
    have hY := bst hX tE
    have hb' : Below w.heap.size w V3 := hb.trans (hY.mono hb.size)
    have lE : w2.heap.size < V3.heap.size := by omega
    have eE : w.heap.size ≤ w2.heap.size := Nat.le_trans hb.size hX.size
    have hK' := hK.below lK hY
    have lK' := Nat.lt_of_lt_of_le lK hY.size
    have hR' := hR.below lR hY
    have lR' := Nat.lt_of_lt_of_le lR hY.size
    (try clear K0 K1 R0 R1 R2 R3 yR0 yR1 yR2 yR3)
    have zz := zE
    clear hX hb hY tE zE hK lK hR lR
    have hK := hK'
    have lK := lK'
    clear hK' lK'
    have hR := hR'
    have lR := lR'
    clear hR' lR'
    have hb := hb'
    clear hb'
    have hX := Below.refl V3.heap.size V3
    generalize w2.heap.size = gE at *
    clear zz
    obtain ⟨K0, K1⟩ := (id hK).duo
    obtain ⟨R0, R1, R2, R3⟩ := (id hR).quad; have yR0 := (id hR).frozen 0; have yR1 := (id hR).frozen 1; have yR2 := (id hR).frozen 2; have yR3 := (id hR).frozen 3
    obtain ⟨E0, E1⟩ := (id hE).duo
    go_upto_region 3 with (go_at_call 61; ((with_reducible refine (HB.out _ (hb.trans ((bst hX (by go_grown)).mono hb.size))).mono ?_); rintro z w2 ⟨rfl, hk⟩; have hX' := bst (bst hX (by go_grown)) hk; clear hX hk; have hX := hX'; clear hX'; (try clear K0 K1); have cK := hK.below lK hX; obtain ⟨K0, K1⟩ := cK.duo; clear cK; (try clear R0 R1 R2 R3 yR0 yR1 yR2 yR3); (try clear cR); have cR := hR.below lR hX; obtain ⟨R0, R1, R2, R3⟩ := cR.quad; have yR0 := cR.frozen 0; have yR1 := cR.frozen 1; have yR2 := cR.frozen 2; have yR3 := cR.frozen 3; (try clear E0 E1); have cE := hE.below lE hX; obtain ⟨E0, E1⟩ := cE.duo; clear cE))
    obtain ⟨hF, zF, tF⟩ := end_new2 w2 j e _ rfl
    generalize (w2.alloc (Obj.cells #[Value.int IntKind.i8 j, Value.int IntKind.i64 e] 24)) = V4 at *
    have hY := bst hX tF
    have hb' : Below w.heap.size w V4 := hb.trans (hY.mono hb.size)
    have lF : w2.heap.size < V4.heap.size := by omega
    have eF : w.heap.size ≤ w2.heap.size := Nat.le_trans hb.size hX.size
    have hK' := hK.below lK hY
    have lK' := Nat.lt_of_lt_of_le lK hY.size
    have hR' := hR.below lR hY
    have lR' := Nat.lt_of_lt_of_le lR hY.size
    have hE' := hE.below lE hY
    have lE' := Nat.lt_of_lt_of_le lE hY.size
    (try clear K0 K1 R0 R1 R2 R3 yR0 yR1 yR2 yR3 E0 E1)
    have zz := zF
    clear hX hb hY tF zF hK lK hR lR hE lE
    have hK := hK'
    have lK := lK'
    clear hK' lK'
    have hR := hR'
    have lR := lR'
    clear hR' lR'
    have hE := hE'
    have lE := lE'
    clear hE' lE'
    have hb := hb'
    clear hb'
    have hX := Below.refl V4.heap.size V4
    generalize w2.heap.size = gF at *
    clear zz
    obtain ⟨K0, K1⟩ := (id hK).duo
    obtain ⟨R0, R1, R2, R3⟩ := (id hR).quad; have yR0 := (id hR).frozen 0; have yR1 := (id hR).frozen 1; have yR2 := (id hR).frozen 2; have yR3 := (id hR).frozen 3
    obtain ⟨E0, E1⟩ := (id hE).duo
    obtain ⟨F0, F1⟩ := (id hF).duo
    go_wp2_with (go_at_call 74; ((with_reducible refine (HF.out _).mono ?_); rintro z w2 ⟨rfl, hk⟩; have hX' := bst (bst hX (by go_grown)) hk; clear hX hk; have hX := hX'; clear hX'; (try clear K0 K1); have cK := hK.below lK hX; obtain ⟨K0, K1⟩ := cK.duo; clear cK; (try clear R0 R1 R2 R3 yR0 yR1 yR2 yR3); (try clear cR); have cR := hR.below lR hX; obtain ⟨R0, R1, R2, R3⟩ := cR.quad; have yR0 := cR.frozen 0; have yR1 := cR.frozen 1; have yR2 := cR.frozen 2; have yR3 := cR.frozen 3; (try clear E0 E1); have cE := hE.below lE hX; obtain ⟨E0, E1⟩ := cE.duo; clear cE; (try clear F0 F1); have cF := hF.below lF hX; obtain ⟨F0, F1⟩ := cF.duo; clear cF))
    exact bodyPost_ret (res_par2 rfl rfl rfl (cR.store 0 0 0 0).quad) rfl ⟨rfl, set4_below (hb.trans (hX.mono hb.size)) eR 0 0 0 0⟩
end Go.Proofs.YtmbaohjekeiphaaGreatDoor
/- The functions of package runs, for the landed code: Shift, Text, Parse. -/
namespace Go.Proofs.YtmbaohjekeiphaaGreatDoor
open Go.RowKit

theorem shift_eq (r : Ru) (k : Int) (h : ruE r = 0) : foV (shX r.i r.d k) (shX r.j r.e k) = shE r k ∧ (if shE r k = 0 then (⟨r.i, shD r.i r.d k, r.j, shD r.j r.e k⟩ : Ru) else ru0) = shR r k := by
  have e1 : shE r k = ruSE r k := if_pos h
  have e2 : shR r k = ruS r k := if_pos h
  rw [e1, e2]
  have f : ∀ i d, (shX i d k = 0 ∧ (i = 0 → I64 (d + k)) ∧ shD i d k = mvV i d k) ∨ (shX i d k = 15 ∧ ¬ (i = 0 → I64 (d + k))) := fun i d => by
    unfold shX shD mvV
    by_cases hi : i = 0
    · rw [if_pos hi, if_pos hi, if_pos hi]
      by_cases hf : I64 (d + k)
      · exact .inl ⟨fitE_in hf.1 hf.2, fun _ => hf, fitV_in hf.1 hf.2⟩
      · exact .inr ⟨fitE_out (by unfold I64 at hf; omega), fun q => hf (q hi)⟩
    · rw [if_neg hi, if_neg hi, if_neg hi]
      exact .inl ⟨rfl, fun q => absurd q hi, rfl⟩
  unfold ruS ruSE
  rcases f r.i r.d with ⟨x1, x2, x3⟩ | ⟨x1, x2⟩ <;> rcases f r.j r.e with ⟨y1, y2, y3⟩ | ⟨y1, y2⟩
  · rw [x1, y1, if_pos ⟨x2, y2⟩, x3, y3]
    exact ⟨rfl, rfl⟩
  all_goals
    rw [x1, y1, if_neg (by rintro ⟨q1, q2⟩; first | exact x2 q1 | exact y2 q2)]
    exact ⟨rfl, rfl⟩
set_option maxHeartbeats 1000000 in
set_option maxRecDepth 100000 in
theorem rshi_any (r : Ru) (k : Int) (w : World) (hr : r.In) (hk : I64 k) : Calls Tryz.prog 25 #[V4 r, .int .i64 k] w fun x w' => x = .returned (.tuple #[V4 (shR r k), .int .i64 (shE r k)]) ∧ Below w.heap.size w w' := by
  have hmf : ∀ (fn : Fn) (first cap : Array Value) (w : World), (Instr.makeFunc fn first cap).run Tryz.prog w = .ok (.func fn first cap) w := fun _ _ _ _ => rfl
  have hC := fun X => rchk_any r X
  by_cases hv : ruE r = 0
  · have hE := fun X => rends_any r.i r.d r.j r.e X
    have hS := fun (g : Nat) X (h : BkI X g k ∧ g < X.heap.size) => reach_shift r.i r.d r.j r.e k g X hr.2.1 hr.2.2.2 hk h
    have hR := fun X => rrun_any (shR r k).i (shR r k).d (shR r k).j (shR r k).e X
    rw [(shift_eq r k hv).1, (shift_eq r k hv).2] at hS
    rw [hv] at hC
    generalize shR r k = R at *
    generalize shE r k = x at *
    clear hr hk hv
    obtain ⟨i, d, j, e⟩ := r
    obtain ⟨i2, d2, j2, e2⟩ := R
    (try dsimp only at *)
    have HC := Lib.hid hC
    have HE := Lib.hid hE
    have HS := Lib.hid hS
    have HR := Lib.hid hR
    clear hC hE hS hR
    go_enter Tryz.func25, Tryz.ntmps25
    go_upto_region 1 with fail
    have hb := Below.refl w.heap.size w
    have hX := Below.refl w.heap.size w
    obtain ⟨hK, zK, tK⟩ := run_new w i d j e _ rfl
    generalize (w.alloc (Obj.cells #[Value.int IntKind.i8 i, Value.int IntKind.i64 d, Value.int IntKind.i8 j, Value.int IntKind.i64 e] 26)) = V1 at *
    have hY := bst hX tK
    have hb' : Below w.heap.size w V1 := hb.trans (hY.mono hb.size)
    have lK : w.heap.size < V1.heap.size := by omega
    have eK : w.heap.size ≤ w.heap.size := Nat.le_trans hb.size hX.size
    have zz := zK
    clear hX hb hY tK zK
    have hb := hb'
    clear hb'
    have hX := Below.refl V1.heap.size V1
    have zz1 : V1.heap.size = w.heap.size + 1 := zz
    clear zz
    obtain ⟨hN, zN, tN⟩ := int_new V1 k _ rfl
    generalize (V1.alloc (Obj.cells #[Value.int IntKind.i64 k] 2)) = V2 at *
    have hY := bst hX tN
    have hb' : Below w.heap.size w V2 := hb.trans (hY.mono hb.size)
    have lN : V1.heap.size < V2.heap.size := by omega
    have eN : w.heap.size ≤ V1.heap.size := Nat.le_trans hb.size hX.size
    have hK' := hK.below lK hY
    have lK' := Nat.lt_of_lt_of_le lK hY.size
    (try clear K0 K1 K2 K3)
    have zz := zN
    clear hX hb hY tN zN hK lK
    have hK := hK'
    have lK := lK'
    clear hK' lK'
    have hb := hb'
    clear hb'
    have hX := Below.refl V2.heap.size V2
    rw [zz1] at hN lN eN
    have zz2 : V2.heap.size = w.heap.size + 1 + 1 := by rw [zz, zz1]
    clear zz1
    clear zz
    obtain ⟨hM, zM, tM⟩ := run_new V2 0 0 0 0 _ rfl
    generalize (V2.alloc (Obj.cells #[Value.int IntKind.i8 0, Value.int IntKind.i64 0, Value.int IntKind.i8 0, Value.int IntKind.i64 0] 26)) = V3 at *
    have hY := bst hX tM
    have hb' : Below w.heap.size w V3 := hb.trans (hY.mono hb.size)
    have lM : V2.heap.size < V3.heap.size := by omega
    have eM : w.heap.size ≤ V2.heap.size := Nat.le_trans hb.size hX.size
    have hK' := hK.below lK hY
    have lK' := Nat.lt_of_lt_of_le lK hY.size
    have hN' := hN.below lN hY
    have lN' := Nat.lt_of_lt_of_le lN hY.size
    (try clear K0 K1 K2 K3 N0)
    have zz := zM
    clear hX hb hY tM zM hK lK hN lN
    have hK := hK'
    have lK := lK'
    clear hK' lK'
    have hN := hN'
    have lN := lN'
    clear hN' lN'
    have hb := hb'
    clear hb'
    have hX := Below.refl V3.heap.size V3
    rw [zz2] at hM lM eM
    have zz3 : V3.heap.size = w.heap.size + 1 + 1 + 1 := by rw [zz, zz2]
    clear zz2
    clear zz
    obtain ⟨K0, K1, K2, K3⟩ := (id hK).quad
    have N0 := (id hN).uno
    obtain ⟨M0, M1, M2, M3⟩ := (id hM).quad; have yM0 := (id hM).frozen 0; have yM1 := (id hM).frozen 1; have yM2 := (id hM).frozen 2; have yM3 := (id hM).frozen 3
    go_upto_region 5 with (first
          | (go_at_call 8; ((with_reducible refine (HC.out _).mono ?_); rintro z w2 ⟨rfl, hk⟩; have hX' := bst (bst hX (by go_grown)) hk; clear hX hk; have hX := hX'; clear hX'; (try clear K0 K1 K2 K3); have cK := hK.below lK hX; obtain ⟨K0, K1, K2, K3⟩ := cK.quad; clear cK; (try clear N0); (try clear cN); have cN := hN.below lN hX; have N0 := cN.uno; (try clear M0 M1 M2 M3 yM0 yM1 yM2 yM3); (try clear cM); have cM := hM.below lM hX; obtain ⟨M0, M1, M2, M3⟩ := cM.quad; have yM0 := cM.frozen 0; have yM1 := cM.frozen 1; have yM2 := cM.frozen 2; have yM3 := cM.frozen 3))
          | (go_at_call 51; ((with_reducible refine (HE.out _).mono ?_); rintro z w2 ⟨rfl, hk⟩; have hX' := bst (bst hX (by go_grown)) hk; clear hX hk; have hX := hX'; clear hX'; (try clear K0 K1 K2 K3); have cK := hK.below lK hX; obtain ⟨K0, K1, K2, K3⟩ := cK.quad; clear cK; (try clear N0); (try clear cN); have cN := hN.below lN hX; have N0 := cN.uno; (try clear M0 M1 M2 M3 yM0 yM1 yM2 yM3); (try clear cM); have cM := hM.below lM hX; obtain ⟨M0, M1, M2, M3⟩ := cM.quad; have yM0 := cM.frozen 0; have yM1 := cM.frozen 1; have yM2 := cM.frozen 2; have yM3 := cM.frozen 3))
          | (go_at_call 50; ((with_reducible refine (HS.out _ _ ⟨cN, Nat.lt_of_lt_of_le lN hX.size⟩).mono ?_); rintro z w2 ⟨rfl, hk⟩; have hX' := bst (bst hX (by go_grown)) hk; clear hX hk; have hX := hX'; clear hX'; (try clear K0 K1 K2 K3); have cK := hK.below lK hX; obtain ⟨K0, K1, K2, K3⟩ := cK.quad; clear cK; (try clear N0); (try clear cN); have cN := hN.below lN hX; have N0 := cN.uno; (try clear M0 M1 M2 M3 yM0 yM1 yM2 yM3); (try clear cM); have cM := hM.below lM hX; obtain ⟨M0, M1, M2, M3⟩ := cM.quad; have yM0 := cM.frozen 0; have yM1 := cM.frozen 1; have yM2 := cM.frozen 2; have yM3 := cM.frozen 3)))
    (try clear zz3)
    (try clear K0 K1 K2 K3)
    (try clear hK lK)
    (try clear N0)
    (try clear hN lN)
    (try clear cN)
    obtain ⟨hT, zT, tT⟩ := par_new w2 i2 d2 j2 e2 _ rfl
    generalize (w2.alloc (Obj.cells #[Value.int IntKind.i8 i2, Value.int IntKind.i64 d2, Value.int IntKind.i8 j2, Value.int IntKind.i64 e2] 71)) = V4 at *
    have hY := bst hX tT
    have hb' : Below w.heap.size w V4 := hb.trans (hY.mono hb.size)
    have lT : w2.heap.size < V4.heap.size := by omega
    have eT : w.heap.size ≤ w2.heap.size := Nat.le_trans hb.size hX.size
    have hM' := hM.below lM hY
    have lM' := Nat.lt_of_lt_of_le lM hY.size
    (try clear M0 M1 M2 M3 yM0 yM1 yM2 yM3)
    have zz := zT
    clear hX hb hY tT zT hM lM
    have hM := hM'
    have lM := lM'
    clear hM' lM'
    have hb := hb'
    clear hb'
    have hX := Below.refl V4.heap.size V4
    generalize w2.heap.size = gT at *
    clear zz
    obtain ⟨M0, M1, M2, M3⟩ := (id hM).quad; have yM0 := (id hM).frozen 0; have yM1 := (id hM).frozen 1; have yM2 := (id hM).frozen 2; have yM3 := (id hM).frozen 3
    obtain ⟨T0, T1, T2, T3⟩ := (id hT).quad
    go_wp2_with (go_at_call 53; ((with_reducible refine (HR.out _).mono ?_); rintro z w2 ⟨rfl, hk⟩; have hX' := bst (bst hX (by go_grown)) hk; clear hX hk; have hX := hX'; clear hX'; (try clear M0 M1 M2 M3 yM0 yM1 yM2 yM3); (try clear cM); have cM := hM.below lM hX; obtain ⟨M0, M1, M2, M3⟩ := cM.quad; have yM0 := cM.frozen 0; have yM1 := cM.frozen 1; have yM2 := cM.frozen 2; have yM3 := cM.frozen 3; (try clear T0 T1 T2 T3); have cT := hT.below lT hX; obtain ⟨T0, T1, T2, T3⟩ := cT.quad; clear cT))
    exact bodyPost_ret (res_run2 rfl rfl rfl (cM.store i2 d2 j2 e2).quad) rfl ⟨rfl, set4_below (hb.trans (hX.mono hb.size)) eM i2 d2 j2 e2⟩
  · have e1 : shR r k = ru0 := if_neg hv
    have e2 : shE r k = ruE r := if_neg hv
    rw [e1, e2]
    clear e1 e2 hr hk
    unfold ru0
    generalize ruE r = v at *
    obtain ⟨i, d, j, e⟩ := r
    (try dsimp only at *)
    have q : (v != 0) = true := by rw [bne_iff_ne]; exact hv
    have HC := Lib.hid hC
    clear hC
    go_enter Tryz.func25, Tryz.ntmps25
    go_upto_region 1 with fail
    have hb := Below.refl w.heap.size w
    have hX := Below.refl w.heap.size w
    obtain ⟨hK, zK, tK⟩ := run_new w i d j e _ rfl
    generalize (w.alloc (Obj.cells #[Value.int IntKind.i8 i, Value.int IntKind.i64 d, Value.int IntKind.i8 j, Value.int IntKind.i64 e] 26)) = V1 at *
    have hY := bst hX tK
    have hb' : Below w.heap.size w V1 := hb.trans (hY.mono hb.size)
    have lK : w.heap.size < V1.heap.size := by omega
    have eK : w.heap.size ≤ w.heap.size := Nat.le_trans hb.size hX.size
    have zz := zK
    clear hX hb hY tK zK
    have hb := hb'
    clear hb'
    have hX := Below.refl V1.heap.size V1
    have zz1 : V1.heap.size = w.heap.size + 1 := zz
    clear zz
    obtain ⟨hN, zN, tN⟩ := int_new V1 k _ rfl
    generalize (V1.alloc (Obj.cells #[Value.int IntKind.i64 k] 2)) = V2 at *
    have hY := bst hX tN
    have hb' : Below w.heap.size w V2 := hb.trans (hY.mono hb.size)
    have lN : V1.heap.size < V2.heap.size := by omega
    have eN : w.heap.size ≤ V1.heap.size := Nat.le_trans hb.size hX.size
    have hK' := hK.below lK hY
    have lK' := Nat.lt_of_lt_of_le lK hY.size
    (try clear K0 K1 K2 K3)
    have zz := zN
    clear hX hb hY tN zN hK lK
    have hK := hK'
    have lK := lK'
    clear hK' lK'
    have hb := hb'
    clear hb'
    have hX := Below.refl V2.heap.size V2
    rw [zz1] at hN lN eN
    have zz2 : V2.heap.size = w.heap.size + 1 + 1 := by rw [zz, zz1]
    clear zz1
    clear zz
    obtain ⟨hM, zM, tM⟩ := run_new V2 0 0 0 0 _ rfl
    generalize (V2.alloc (Obj.cells #[Value.int IntKind.i8 0, Value.int IntKind.i64 0, Value.int IntKind.i8 0, Value.int IntKind.i64 0] 26)) = V3 at *
    have hY := bst hX tM
    have hb' : Below w.heap.size w V3 := hb.trans (hY.mono hb.size)
    have lM : V2.heap.size < V3.heap.size := by omega
    have eM : w.heap.size ≤ V2.heap.size := Nat.le_trans hb.size hX.size
    have hK' := hK.below lK hY
    have lK' := Nat.lt_of_lt_of_le lK hY.size
    have hN' := hN.below lN hY
    have lN' := Nat.lt_of_lt_of_le lN hY.size
    (try clear K0 K1 K2 K3 N0)
    have zz := zM
    clear hX hb hY tM zM hK lK hN lN
    have hK := hK'
    have lK := lK'
    clear hK' lK'
    have hN := hN'
    have lN := lN'
    clear hN' lN'
    have hb := hb'
    clear hb'
    have hX := Below.refl V3.heap.size V3
    rw [zz2] at hM lM eM
    have zz3 : V3.heap.size = w.heap.size + 1 + 1 + 1 := by rw [zz, zz2]
    clear zz2
    clear zz
    obtain ⟨K0, K1, K2, K3⟩ := (id hK).quad
    have N0 := (id hN).uno
    obtain ⟨M0, M1, M2, M3⟩ := (id hM).quad; have yM0 := (id hM).frozen 0; have yM1 := (id hM).frozen 1; have yM2 := (id hM).frozen 2; have yM3 := (id hM).frozen 3
    go_wp2_with (go_at_call 8; ((with_reducible refine (HC.out _).mono ?_); rintro z w2 ⟨rfl, hk⟩; have hX' := bst (bst hX (by go_grown)) hk; clear hX hk; have hX := hX'; clear hX'; (try clear K0 K1 K2 K3); have cK := hK.below lK hX; obtain ⟨K0, K1, K2, K3⟩ := cK.quad; clear cK; (try clear N0); have cN := hN.below lN hX; have N0 := cN.uno; clear cN; (try clear M0 M1 M2 M3 yM0 yM1 yM2 yM3); (try clear cM); have cM := hM.below lM hX; obtain ⟨M0, M1, M2, M3⟩ := cM.quad; have yM0 := cM.frozen 0; have yM1 := cM.frozen 1; have yM2 := cM.frozen 2; have yM3 := cM.frozen 3))
    exact bodyPost_ret (res_run2 rfl rfl rfl (cM.store 0 0 0 0).quad) rfl ⟨rfl, set4_below (hb.trans (hX.mono hb.size)) eM 0 0 0 0⟩
set_option maxHeartbeats 1000000 in
set_option maxRecDepth 100000 in
theorem rtex_any (r : Ru) (w : World) (hs : StartI w) (hr : r.In) : Calls Tryz.prog 63 #[V4 r] w fun x w' => x = .returned (.tuple #[.string (teS r), .int .i64 (ruE r)]) ∧ Below w.heap.size w w' := by
  have hC := fun X => rchk_any r X
  by_cases hv : ruE r = 0
  · have h12 : enE r.i r.d = 0 ∧ enE r.j r.e = 0 := by
      have a1 := (ruE_right hv).1
      have a2 := (ruE_right hv).2.1
      unfold enE
      constructor
      · rcases a1 with h | ⟨h, h'⟩ <;> simp [h]
        exact h'
      · rcases a2 with h | ⟨h, h'⟩ <;> simp [h]
        exact h'
    have hE := fun X => rends_any r.i r.d r.j r.e X
    have hS := fun X (h : Below w.heap.size w X) => reach_text r.i r.d r.j r.e X (hs.below h) hr.2.1 hr.2.2.2 h12.1 h12.2
    have e : teS r = (enT r.i r.d ++ ⟨#[46, 46]⟩) ++ enT r.j r.e := by
      unfold teS ruT enT
      rw [if_pos hv, if_pos h12.1, if_pos h12.2]
    have hz1 : (enT r.i r.d).size ≤ 100 := by
      unfold enT
      rw [if_pos h12.1]
      exact Nat.le_trans (enS_size _ _ hr.2.1) (by decide)
    have hz2 : (enT r.j r.e).size ≤ 100 := by
      unfold enT
      rw [if_pos h12.2]
      exact Nat.le_trans (enS_size _ _ hr.2.2.2) (by decide)
    rw [e, hv]
    rw [hv] at hC
    clear e h12 hv hr hs
    generalize enT r.i r.d = s at *
    generalize enT r.j r.e = t at *
    obtain ⟨i, d, j, e⟩ := r
    (try dsimp only at *)
    have HC := Lib.hid hC
    have HE := Lib.hid hE
    have HS := Lib.hid hS
    clear hC hE hS
    go_enter Tryz.func63, Tryz.ntmps63
    go_upto_region 1 with fail
    have hb := Below.refl w.heap.size w
    have hX := Below.refl w.heap.size w
    obtain ⟨hK, zK, tK⟩ := run_new w i d j e _ rfl
    generalize (w.alloc (Obj.cells #[Value.int IntKind.i8 i, Value.int IntKind.i64 d, Value.int IntKind.i8 j, Value.int IntKind.i64 e] 26)) = V1 at *
    have hY := bst hX tK
    have hb' : Below w.heap.size w V1 := hb.trans (hY.mono hb.size)
    have lK : w.heap.size < V1.heap.size := by omega
    have eK : w.heap.size ≤ w.heap.size := Nat.le_trans hb.size hX.size
    have zz := zK
    clear hX hb hY tK zK
    have hb := hb'
    clear hb'
    have hX := Below.refl V1.heap.size V1
    have zz1 : V1.heap.size = w.heap.size + 1 := zz
    clear zz
    obtain ⟨K0, K1, K2, K3⟩ := (id hK).quad
    go_upto_region 5 with (first
          | (go_at_call 8; ((with_reducible refine (HC.out _).mono ?_); rintro z w2 ⟨rfl, hk⟩; have hX' := bst (bst hX (by go_grown)) hk; clear hX hk; have hX := hX'; clear hX'; (try clear K0 K1 K2 K3); have cK := hK.below lK hX; obtain ⟨K0, K1, K2, K3⟩ := cK.quad; clear cK))
          | (go_at_call 51; ((with_reducible refine (HE.out _).mono ?_); rintro z w2 ⟨rfl, hk⟩; have hX' := bst (bst hX (by go_grown)) hk; clear hX hk; have hX := hX'; clear hX'; (try clear K0 K1 K2 K3); have cK := hK.below lK hX; obtain ⟨K0, K1, K2, K3⟩ := cK.quad; clear cK))
          | (go_at_call 83; ((with_reducible refine (HS.out _ (hb.trans ((bst hX (by go_grown)).mono hb.size))).mono ?_); rintro z w2 ⟨rfl, hk⟩; have hX' := bst (bst hX (by go_grown)) hk; clear hX hk; have hX := hX'; clear hX'; (try clear K0 K1 K2 K3); have cK := hK.below lK hX; obtain ⟨K0, K1, K2, K3⟩ := cK.quad; clear cK)))
    (try clear zz1)
    (try clear K0 K1 K2 K3)
    (try clear hK lK)
    obtain ⟨hT, zT, tT⟩ := str_new w2 s t _ rfl
    generalize (w2.alloc (Obj.cells #[Value.string s, Value.string t] 90)) = V2 at *
    have hY := bst hX tT
    have hb' : Below w.heap.size w V2 := hb.trans (hY.mono hb.size)
    have lT : w2.heap.size < V2.heap.size := by omega
    have eT : w.heap.size ≤ w2.heap.size := Nat.le_trans hb.size hX.size
    have zz := zT
    clear hX hb hY tT zT
    have hb := hb'
    clear hb'
    have hX := Below.refl V2.heap.size V2
    generalize w2.heap.size = gT at *
    clear zz
    obtain ⟨T0, T1⟩ := (id hT).duo
    go_wp2_with fail
    go_ret2
    exact ⟨rfl, hb.trans (hX.mono hb.size)⟩
  · have e1 : teS r = ⟨#[]⟩ := if_neg hv
    rw [e1]
    clear e1 hr hs
    generalize ruE r = v at *
    obtain ⟨i, d, j, e⟩ := r
    (try dsimp only at *)
    have q : (v != 0) = true := by rw [bne_iff_ne]; exact hv
    have HC := Lib.hid hC
    clear hC
    go_enter Tryz.func63, Tryz.ntmps63
    go_upto_region 1 with fail
    have hb := Below.refl w.heap.size w
    have hX := Below.refl w.heap.size w
    obtain ⟨hK, zK, tK⟩ := run_new w i d j e _ rfl
    generalize (w.alloc (Obj.cells #[Value.int IntKind.i8 i, Value.int IntKind.i64 d, Value.int IntKind.i8 j, Value.int IntKind.i64 e] 26)) = V1 at *
    have hY := bst hX tK
    have hb' : Below w.heap.size w V1 := hb.trans (hY.mono hb.size)
    have lK : w.heap.size < V1.heap.size := by omega
    have eK : w.heap.size ≤ w.heap.size := Nat.le_trans hb.size hX.size
    have zz := zK
    clear hX hb hY tK zK
    have hb := hb'
    clear hb'
    have hX := Below.refl V1.heap.size V1
    have zz1 : V1.heap.size = w.heap.size + 1 := zz
    clear zz
    obtain ⟨K0, K1, K2, K3⟩ := (id hK).quad
    go_wp2_with (go_at_call 8; ((with_reducible refine (HC.out _).mono ?_); rintro z w2 ⟨rfl, hk⟩; have hX' := bst (bst hX (by go_grown)) hk; clear hX hk; have hX := hX'; clear hX'; (try clear K0 K1 K2 K3); have cK := hK.below lK hX; obtain ⟨K0, K1, K2, K3⟩ := cK.quad; clear cK))
    go_ret2
    exact ⟨rfl, hb.trans (hX.mono hb.size)⟩
theorem idx_dots : ∀ l : List UInt8, Lib.index l [46, 46] = if dotAt l + 1 < l.length then (dotAt l : Int) else -1
  | [] => rfl
  | [a] => by
    have : List.isPrefixOf [(46 : UInt8), 46] [a] = false := by simp [List.isPrefixOf]
    unfold Lib.index
    rw [this]
    rfl
  | a :: b :: r => by
    have ih := idx_dots (b :: r)
    unfold dotAt
    rw [show Lib.index (a :: b :: r) [46, 46] = if List.isPrefixOf [46, 46] (a :: b :: r) = true then 0 else if Lib.index (b :: r) [46, 46] == -1 then -1 else Lib.index (b :: r) [46, 46] + 1 from rfl]
    by_cases h : a = 46 ∧ b = 46
    · obtain ⟨rfl, rfl⟩ := h
      have : List.isPrefixOf [(46 : UInt8), 46] (46 :: 46 :: r) = true := by simp [List.isPrefixOf]
      rw [this]
      simp
    · have : List.isPrefixOf [(46 : UInt8), 46] (a :: b :: r) = false := by
        rw [Bool.eq_false_iff]
        intro q
        simp [List.isPrefixOf] at q
        exact h ⟨q.1.symm, q.2.symm⟩
      rw [this, if_neg h, if_neg (show ¬ (false = true) by decide), ih]
      by_cases h2 : dotAt (b :: r) + 1 < (b :: r).length
      · have h3 : dotAt (b :: r) + 1 + 1 < (a :: b :: r).length := by simp only [List.length_cons] at *; omega
        have : ((dotAt (b :: r) : Int) == -1) = false := by rw [beq_eq_false_iff_ne]; omega
        rw [if_pos h2, if_pos h3, this, if_neg (show ¬ (false = true) by decide)]
        omega
      · have h3 : ¬ dotAt (b :: r) + 1 + 1 < (a :: b :: r).length := by simp only [List.length_cons] at *; omega
        rw [if_neg h2, if_neg h3]
        rfl
theorem cut_dots (s : ByteArray) : (dotS s + 1 < s.size ∧ (⟨(Lib.cut s.data.toList [46, 46]).1.toArray⟩ : ByteArray) = loS s ∧ (⟨(Lib.cut s.data.toList [46, 46]).2.1.toArray⟩ : ByteArray) = hiS s ∧ (Lib.cut s.data.toList [46, 46]).2.2 = true) ∨
    (¬ dotS s + 1 < s.size ∧ (Lib.cut s.data.toList [46, 46]).2.2 = false) := by
  have hi : Lib.indexB s ⟨#[46, 46]⟩ = if dotS s + 1 < s.size then (dotS s : Int) else -1 := by
    have := idx_dots s.data.toList
    rw [← Lib.size_eq] at this
    exact this
  by_cases h : dotS s + 1 < s.size
  · rw [if_pos h] at hi
    obtain ⟨q1, q2, q3⟩ := Lib.cutB_hit s ⟨#[46, 46]⟩ _ hi
    exact .inl ⟨h, q1, q2, q3⟩
  · rw [if_neg h] at hi
    exact .inr ⟨h, (Lib.cutB_miss s ⟨#[46, 46]⟩ hi).2.2⟩
/-- The library's variable holds some number. -/
def MaxL (w : World) : Prop := (∃ m, w.cell? ⟨0, 0, none⟩ = some (.int .i64 m)) ∧ 0 < w.heap.size
theorem MaxL.below {w w' : World} (h : MaxL w) (hb : Below w.heap.size w w') : MaxL w' := by
  obtain ⟨⟨m, h1⟩, h2⟩ := h
  exact ⟨⟨m, (hb.cell (p := ⟨0, 0, none⟩) h2).trans h1⟩, Nat.lt_of_lt_of_le h2 hb.size⟩
theorem rcut_any (s : ByteArray) (w : World) (hs : s.size ≤ 4294967280) (hm : MaxL w) : Calls Tryz.prog 59 #[.string s, .string ⟨#[46, 46]⟩] w fun e w' => e = .returned (.tuple #[.string ⟨(Lib.cut s.data.toList [46, 46]).1.toArray⟩, .string ⟨(Lib.cut s.data.toList [46, 46]).2.1.toArray⟩, .bool (Lib.cut s.data.toList [46, 46]).2.2]) ∧ Below w.heap.size w w' := by
  obtain ⟨⟨m, h1⟩, -⟩ := hm
  refine (Any.strings_Cut Tryz.lays145 s ⟨#[46, 46]⟩ m w (by omega) h1).mono ?_
  rintro e w' ⟨rfl, n, rfl⟩
  exact ⟨rfl, below_drewN (Below.refl _ _) n⟩
theorem fo_parse (s : ByteArray) (h : dotS s + 1 < s.size) : (¬ foV (prE (loS s)) (prE (hiS s)) = 0 ∧ prRE s = foV (prE (loS s)) (prE (hiS s)) ∧ prR s = ru0) ∨
    (foV (prE (loS s)) (prE (hiS s)) = 0 ∧ prRE s = ruE (prRun s) ∧ prR s = ckR (prRun s)) := by
  unfold prR ckR
  have e : prRE s = (if prE (loS s) = 5 ∨ prE (hiS s) = 5 then 5 else if prE (loS s) ≠ 0 ∨ prE (hiS s) ≠ 0 then 15 else ruE (prRun s)) := if_pos h
  rw [e]
  unfold foV orV
  rcases prE_three (loS s) with h1 | h1 | h1 <;> rcases prE_three (hiS s) with h2 | h2 | h2 <;> rw [h1, h2]
  · exact .inr ⟨rfl, rfl, rfl⟩
  all_goals exact .inl ⟨by decide, rfl, rfl⟩
set_option maxHeartbeats 1000000 in
set_option maxRecDepth 100000 in
theorem rpar_any (s : ByteArray) (w : World) (hs : StartI w) (hm : MaxL w) (hl : s.size ≤ 4294967280) : Calls Tryz.prog 31 #[.string s] w fun x w' => x = .returned (.tuple #[V4 (prR s), .int .i64 (prRE s)]) ∧ Below w.heap.size w w' := by
  have hT := fun X (h : Below w.heap.size w X) => rcut_any s X hl (hm.below h)
  rcases cut_dots s with ⟨h0, h1, h2, h3⟩ | ⟨h0, h3⟩
  · rw [h1, h2, h3] at hT
    have hS := fun X (h : Below w.heap.size w X) => reach_parse (loS s) (hiS s) X (hs.below h) (by have := loS_size s; omega) (by have := hiS_size s; omega)
    have hcs := fo_parse s h0
    clear h0 h1 h2 h3 hs hm hl
    change ∀ X, _ → Calls _ _ _ _ fun z w' => z = .returned (.tuple #[V4 (if _ = 0 then prRun s else ru0), _]) ∧ _ at hS
    generalize foV (prE (loS s)) (prE (hiS s)) = v at *
    generalize loS s = s1 at *
    generalize hiS s = s2 at *
    have hR := fun X => rrun_any (prRun s).i (prRun s).d (prRun s).j (prRun s).e X
    have hC := fun X => rcked_any (prRun s) X
    generalize ckR (prRun s) = Q at *
    generalize ruE (prRun s) = qe at *
    generalize prRun s = R at *
    generalize prR s = r at *
    generalize prRE s = re at *
    rcases hcs with ⟨hv, rfl, rfl⟩ | ⟨rfl, rfl, rfl⟩
    · rw [if_neg hv] at hS
      have q : (re != 0) = true := by rw [bne_iff_ne]; exact hv
      unfold ru0 at *
      (try dsimp only at *)
      clear hR hC
      have HT := Lib.hid hT
      have HS := Lib.hid hS
      clear hT hS
      go_enter Tryz.func31, Tryz.ntmps31
      go_upto_region 1 with fail
      have hb := Below.refl w.heap.size w
      have hX := Below.refl w.heap.size w
      obtain ⟨hM, zM, tM⟩ := run_new w 0 0 0 0 _ rfl
      generalize (w.alloc (Obj.cells #[Value.int IntKind.i8 0, Value.int IntKind.i64 0, Value.int IntKind.i8 0, Value.int IntKind.i64 0] 26)) = V1 at *
      have hY := bst hX tM
      have hb' : Below w.heap.size w V1 := hb.trans (hY.mono hb.size)
      have lM : w.heap.size < V1.heap.size := by omega
      have eM : w.heap.size ≤ w.heap.size := Nat.le_trans hb.size hX.size
      have zz := zM
      clear hX hb hY tM zM
      have hb := hb'
      clear hb'
      have hX := Below.refl V1.heap.size V1
      have zz1 : V1.heap.size = w.heap.size + 1 := zz
      clear zz
      obtain ⟨M0, M1, M2, M3⟩ := (id hM).quad; have yM0 := (id hM).frozen 0; have yM1 := (id hM).frozen 1; have yM2 := (id hM).frozen 2; have yM3 := (id hM).frozen 3
      go_upto_region 5 with (first
              | (go_at_call 59; ((with_reducible refine (HT.out _ (hb.trans ((bst hX (by go_grown)).mono hb.size))).mono ?_); rintro z w2 ⟨rfl, hk⟩; have hX' := bst (bst hX (by go_grown)) hk; clear hX hk; have hX := hX'; clear hX'; (try clear M0 M1 M2 M3 yM0 yM1 yM2 yM3); (try clear cM); have cM := hM.below lM hX; obtain ⟨M0, M1, M2, M3⟩ := cM.quad; have yM0 := cM.frozen 0; have yM1 := cM.frozen 1; have yM2 := cM.frozen 2; have yM3 := cM.frozen 3))
              | (go_at_call 60; ((with_reducible refine (HS.out _ (hb.trans ((bst hX (by go_grown)).mono hb.size))).mono ?_); rintro z w2 ⟨rfl, hk⟩; have hX' := bst (bst hX (by go_grown)) hk; clear hX hk; have hX := hX'; clear hX'; (try clear M0 M1 M2 M3 yM0 yM1 yM2 yM3); (try clear cM); have cM := hM.below lM hX; obtain ⟨M0, M1, M2, M3⟩ := cM.quad; have yM0 := cM.frozen 0; have yM1 := cM.frozen 1; have yM2 := cM.frozen 2; have yM3 := cM.frozen 3)))
      (try clear zz1)
      obtain ⟨hT, zT, tT⟩ := par_new w2 0 0 0 0 _ rfl
      generalize (w2.alloc (Obj.cells #[Value.int IntKind.i8 0, Value.int IntKind.i64 0, Value.int IntKind.i8 0, Value.int IntKind.i64 0] 71)) = V2 at *
      have hY := bst hX tT
      have hb' : Below w.heap.size w V2 := hb.trans (hY.mono hb.size)
      have lT : w2.heap.size < V2.heap.size := by omega
      have eT : w.heap.size ≤ w2.heap.size := Nat.le_trans hb.size hX.size
      have hM' := hM.below lM hY
      have lM' := Nat.lt_of_lt_of_le lM hY.size
      (try clear M0 M1 M2 M3 yM0 yM1 yM2 yM3)
      have zz := zT
      clear hX hb hY tT zT hM lM
      have hM := hM'
      have lM := lM'
      clear hM' lM'
      have hb := hb'
      clear hb'
      have hX := Below.refl V2.heap.size V2
      generalize w2.heap.size = gT at *
      clear zz
      obtain ⟨M0, M1, M2, M3⟩ := (id hM).quad; have yM0 := (id hM).frozen 0; have yM1 := (id hM).frozen 1; have yM2 := (id hM).frozen 2; have yM3 := (id hM).frozen 3
      obtain ⟨T0, T1, T2, T3⟩ := (id hT).quad
      go_wp2_with fail
      exact bodyPost_ret (res_run2 rfl rfl rfl (hM.store 0 0 0 0).quad) rfl ⟨rfl, set4_below (hb.trans (hX.mono hb.size)) eM 0 0 0 0⟩
    · rw [if_pos rfl] at hS
      obtain ⟨i, d, j, e⟩ := R
      obtain ⟨i2, d2, j2, e2⟩ := r
      (try dsimp only at *)
      have HT := Lib.hid hT
      have HS := Lib.hid hS
      have HR := Lib.hid hR
      have HC := Lib.hid hC
      clear hT hS hR hC
      go_enter Tryz.func31, Tryz.ntmps31
      go_upto_region 1 with fail
      have hb := Below.refl w.heap.size w
      have hX := Below.refl w.heap.size w
      obtain ⟨hM, zM, tM⟩ := run_new w 0 0 0 0 _ rfl
      generalize (w.alloc (Obj.cells #[Value.int IntKind.i8 0, Value.int IntKind.i64 0, Value.int IntKind.i8 0, Value.int IntKind.i64 0] 26)) = V1 at *
      have hY := bst hX tM
      have hb' : Below w.heap.size w V1 := hb.trans (hY.mono hb.size)
      have lM : w.heap.size < V1.heap.size := by omega
      have eM : w.heap.size ≤ w.heap.size := Nat.le_trans hb.size hX.size
      have zz := zM
      clear hX hb hY tM zM
      have hb := hb'
      clear hb'
      have hX := Below.refl V1.heap.size V1
      have zz1 : V1.heap.size = w.heap.size + 1 := zz
      clear zz
      obtain ⟨M0, M1, M2, M3⟩ := (id hM).quad; have yM0 := (id hM).frozen 0; have yM1 := (id hM).frozen 1; have yM2 := (id hM).frozen 2; have yM3 := (id hM).frozen 3
      go_upto_region 5 with (first
              | (go_at_call 59; ((with_reducible refine (HT.out _ (hb.trans ((bst hX (by go_grown)).mono hb.size))).mono ?_); rintro z w2 ⟨rfl, hk⟩; have hX' := bst (bst hX (by go_grown)) hk; clear hX hk; have hX := hX'; clear hX'; (try clear M0 M1 M2 M3 yM0 yM1 yM2 yM3); (try clear cM); have cM := hM.below lM hX; obtain ⟨M0, M1, M2, M3⟩ := cM.quad; have yM0 := cM.frozen 0; have yM1 := cM.frozen 1; have yM2 := cM.frozen 2; have yM3 := cM.frozen 3))
              | (go_at_call 60; ((with_reducible refine (HS.out _ (hb.trans ((bst hX (by go_grown)).mono hb.size))).mono ?_); rintro z w2 ⟨rfl, hk⟩; have hX' := bst (bst hX (by go_grown)) hk; clear hX hk; have hX := hX'; clear hX'; (try clear M0 M1 M2 M3 yM0 yM1 yM2 yM3); (try clear cM); have cM := hM.below lM hX; obtain ⟨M0, M1, M2, M3⟩ := cM.quad; have yM0 := cM.frozen 0; have yM1 := cM.frozen 1; have yM2 := cM.frozen 2; have yM3 := cM.frozen 3)))
      (try clear zz1)
      obtain ⟨hT, zT, tT⟩ := par_new w2 i d j e _ rfl
      generalize (w2.alloc (Obj.cells #[Value.int IntKind.i8 i, Value.int IntKind.i64 d, Value.int IntKind.i8 j, Value.int IntKind.i64 e] 71)) = V2 at *
      have hY := bst hX tT
      have hb' : Below w.heap.size w V2 := hb.trans (hY.mono hb.size)
      have lT : w2.heap.size < V2.heap.size := by omega
      have eT : w.heap.size ≤ w2.heap.size := Nat.le_trans hb.size hX.size
      have hM' := hM.below lM hY
      have lM' := Nat.lt_of_lt_of_le lM hY.size
      (try clear M0 M1 M2 M3 yM0 yM1 yM2 yM3)
      have zz := zT
      clear hX hb hY tT zT hM lM
      have hM := hM'
      have lM := lM'
      clear hM' lM'
      have hb := hb'
      clear hb'
      have hX := Below.refl V2.heap.size V2
      generalize w2.heap.size = gT at *
      clear zz
      obtain ⟨M0, M1, M2, M3⟩ := (id hM).quad; have yM0 := (id hM).frozen 0; have yM1 := (id hM).frozen 1; have yM2 := (id hM).frozen 2; have yM3 := (id hM).frozen 3
      obtain ⟨T0, T1, T2, T3⟩ := (id hT).quad
      go_wp2_with (first
              | (go_at_call 53; ((with_reducible refine (HR.out _).mono ?_); rintro z w2 ⟨rfl, hk⟩; have hX' := bst (bst hX (by go_grown)) hk; clear hX hk; have hX := hX'; clear hX'; (try clear M0 M1 M2 M3 yM0 yM1 yM2 yM3); (try clear cM); have cM := hM.below lM hX; obtain ⟨M0, M1, M2, M3⟩ := cM.quad; have yM0 := cM.frozen 0; have yM1 := cM.frozen 1; have yM2 := cM.frozen 2; have yM3 := cM.frozen 3; (try clear T0 T1 T2 T3); have cT := hT.below lT hX; obtain ⟨T0, T1, T2, T3⟩ := cT.quad; clear cT))
              | (go_at_call 44; ((with_reducible refine (HC.out _).mono ?_); rintro z w2 ⟨rfl, hk⟩; have hX' := bst (bst hX (by go_grown)) hk; clear hX hk; have hX := hX'; clear hX'; (try clear M0 M1 M2 M3 yM0 yM1 yM2 yM3); (try clear cM); have cM := hM.below lM hX; obtain ⟨M0, M1, M2, M3⟩ := cM.quad; have yM0 := cM.frozen 0; have yM1 := cM.frozen 1; have yM2 := cM.frozen 2; have yM3 := cM.frozen 3; (try clear T0 T1 T2 T3); have cT := hT.below lT hX; obtain ⟨T0, T1, T2, T3⟩ := cT.quad; clear cT)))
      exact bodyPost_ret (res_run2 rfl rfl rfl (cM.store i2 d2 j2 e2).quad) rfl ⟨rfl, set4_below (hb.trans (hX.mono hb.size)) eM i2 d2 j2 e2⟩
  · rw [h3] at hT
    have e1 : prRE s = 5 := if_neg h0
    have e2 : prR s = ru0 := by unfold prR; rw [e1]; rfl
    rw [e1, e2]
    clear h0 h3 hs hm hl e1 e2
    unfold ru0
    generalize (⟨(Lib.cut s.data.toList [46, 46]).1.toArray⟩ : ByteArray) = s1 at *
    generalize (⟨(Lib.cut s.data.toList [46, 46]).2.1.toArray⟩ : ByteArray) = s2 at *
    (try dsimp only)
    have HT := Lib.hid hT
    clear hT
    go_enter Tryz.func31, Tryz.ntmps31
    go_upto_region 1 with fail
    have hb := Below.refl w.heap.size w
    have hX := Below.refl w.heap.size w
    obtain ⟨hM, zM, tM⟩ := run_new w 0 0 0 0 _ rfl
    generalize (w.alloc (Obj.cells #[Value.int IntKind.i8 0, Value.int IntKind.i64 0, Value.int IntKind.i8 0, Value.int IntKind.i64 0] 26)) = V1 at *
    have hY := bst hX tM
    have hb' : Below w.heap.size w V1 := hb.trans (hY.mono hb.size)
    have lM : w.heap.size < V1.heap.size := by omega
    have eM : w.heap.size ≤ w.heap.size := Nat.le_trans hb.size hX.size
    have zz := zM
    clear hX hb hY tM zM
    have hb := hb'
    clear hb'
    have hX := Below.refl V1.heap.size V1
    have zz1 : V1.heap.size = w.heap.size + 1 := zz
    clear zz
    obtain ⟨M0, M1, M2, M3⟩ := (id hM).quad; have yM0 := (id hM).frozen 0; have yM1 := (id hM).frozen 1; have yM2 := (id hM).frozen 2; have yM3 := (id hM).frozen 3
    go_wp2_with (go_at_call 59; ((with_reducible refine (HT.out _ (hb.trans ((bst hX (by go_grown)).mono hb.size))).mono ?_); rintro z w2 ⟨rfl, hk⟩; have hX' := bst (bst hX (by go_grown)) hk; clear hX hk; have hX := hX'; clear hX'; (try clear M0 M1 M2 M3 yM0 yM1 yM2 yM3); (try clear cM); have cM := hM.below lM hX; obtain ⟨M0, M1, M2, M3⟩ := cM.quad; have yM0 := cM.frozen 0; have yM1 := cM.frozen 1; have yM2 := cM.frozen 2; have yM3 := cM.frozen 3))
    exact bodyPost_ret (res_run2 rfl rfl rfl (cM.store 0 0 0 0).quad) rfl ⟨rfl, set4_below (hb.trans (hX.mono hb.size)) eM 0 0 0 0⟩
end Go.Proofs.YtmbaohjekeiphaaGreatDoor
