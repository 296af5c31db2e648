/- Equality of ends; the law's own gives; the contracts from world to world. -/
import Derived.Test.YtjgaoajbcbpbbaaDoorEndP
import Derived.Laws.StructEq
import Derived.BigQuiet
namespace Go.Proofs.YtjgaoajbcbpbbaaDoor.end8
open Go.RowKit

theorem gives_ok (i d : Int) (w : World) :
    Calls Tryd.prog 19 #[E2 i d, .int .i64 0, E2 i d, .int .i64 0] w fun x w' => x = .returned (.bool true) ∧ Below w.heap.size w w' := by
  have q := fun w => eq_any i d i d w
  rw [eqE_same] at q
  go_enter Tryd.func19, Tryd.ntmps19
  go_wp2
  go_ret
  exact ⟨rfl, by go_grown⟩
theorem gives_bad (i d e : Int) (w : World) (h : ¬ e = 0) :
    Calls Tryd.prog 19 #[E2 0 0, .int .i64 e, E2 i d, .int .i64 e] w fun x w' => x = .returned (.bool true) ∧ Below w.heap.size w w' := by
  have q := fun w => eq_any 0 0 0 0 w
  rw [eqE_same] at q
  have he : (e != 0) = true := by rw [bne_iff_ne]; exact h
  have he2 : (e == e) = true := by simp
  go_enter Tryd.func19, Tryd.ntmps19
  go_wp2
  go_ret
  exact ⟨rfl, by go_grown⟩

theorem c_eq {f : FuncId} {args : Array Value} {w W : World} {u v : Value} (h : Ok w W) (hv : u = v)
    (hc : Calls Tryd.prog f args W fun x w' => x = .returned u ∧ Below W.heap.size W w') :
    Calls Tryd.prog f args W fun x w' => x = .returned v ∧ Ok w w' := by
  subst hv
  exact hc.mono fun _ _ ⟨h1, h2⟩ => ⟨h1, h.step h2⟩
section
variable {w X : World} (h : Ok w X)
include h
theorem c_check (i d : Int) (hi : I8 i) (hd : I64 d) {e : Int} (he : enE i d = e) : Calls Tryd.prog 17 #[E2 i d] X fun x w' => x = .returned (.int .i64 e) ∧ Ok w w' := c_eq h (by rw [he]) (end_check i d X h.1 hi hd)
theorem c_of (d : Int) (hd : I64 d) : Calls Tryd.prog 20 #[.int .i64 d] X fun x w' => x = .returned (E2 0 d) ∧ Ok w w' := c_eq h rfl (end_of d X h.1 hd)
theorem c_cmp (i d j e : Int) (hi : I8 i) (hd : I64 d) (hj : I8 j) (he : I64 e) {n : Int} (hn : enC i d j e = n) : Calls Tryd.prog 8 #[E2 i d, E2 j e] X fun x w' => x = .returned (.int .i64 n) ∧ Ok w w' := c_eq h (by rw [hn]) (end_cmp i d j e X h.1 hi hd hj he)
theorem c_next (i d : Int) (hi : I8 i) (hd : I64 d) {a b e : Int} (ha : nxI i d = a) (hb : nxD i d = b) (he : nxE i d = e) : Calls Tryd.prog 13 #[E2 i d] X fun x w' => x = .returned (.tuple #[E2 a b, .int .i64 e]) ∧ Ok w w' := c_eq h (by rw [ha, hb, he]) (end_next i d X h.1 hi hd)
theorem c_prev (i d : Int) (hi : I8 i) (hd : I64 d) {a b e : Int} (ha : pvI i d = a) (hb : pvD i d = b) (he : pvE i d = e) : Calls Tryd.prog 14 #[E2 i d] X fun x w' => x = .returned (.tuple #[E2 a b, .int .i64 e]) ∧ Ok w w' := c_eq h (by rw [ha, hb, he]) (end_prev i d X h.1 hi hd)
theorem c_min (i d j e : Int) (hi : I8 i) (hd : I64 d) (hj : I8 j) (he : I64 e) {a b : Int} (ha : mnV i d j e i j = a) (hb : mnV i d j e d e = b) : Calls Tryd.prog 10 #[E2 i d, E2 j e] X fun x w' => x = .returned (E2 a b) ∧ Ok w w' := c_eq h (by rw [ha, hb]) (end_min i d j e X h.1 hi hd hj he)
theorem c_max (i d j e : Int) (hi : I8 i) (hd : I64 d) (hj : I8 j) (he : I64 e) {a b : Int} (ha : mxV i d j e i j = a) (hb : mxV i d j e d e = b) : Calls Tryd.prog 11 #[E2 i d, E2 j e] X fun x w' => x = .returned (E2 a b) ∧ Ok w w' := c_eq h (by rw [ha, hb]) (end_max i d j e X h.1 hi hd hj he)
theorem c_text (i d : Int) (hi : I8 i) (hd : I64 d) {s : ByteArray} {e : Int} (ht : enT i d = s) (he : enE i d = e) : Calls Tryd.prog 21 #[E2 i d] X fun x w' => x = .returned (.tuple #[.string s, .int .i64 e]) ∧ Ok w w' := c_eq h (by rw [ht, he]) (end_text i d X h.1 hi hd)
theorem c_parse (s : ByteArray) (hl : s.size ≤ 140737488355328) {a b e : Int} (ha : prI s = a) (hb : prD s = b) (he : prE s = e) : Calls Tryd.prog 22 #[.string s] X fun x w' => x = .returned (.tuple #[E2 a b, .int .i64 e]) ∧ Ok w w' := c_eq h (by rw [ha, hb, he]) (end_parse s X h.1 hl)
theorem c_gok {i d j e x y : Int} (h1 : i = j) (h2 : d = e) (h3 : x = 0) (h4 : y = 0) : Calls Tryd.prog 19 #[E2 i d, .int .i64 x, E2 j e, .int .i64 y] X fun x w' => x = .returned (.bool true) ∧ Ok w w' := by
  subst h1 h2 h3 h4; exact c_eq h rfl (gives_ok i d X)
theorem c_gbad {i d j e x y : Int} (h1 : i = 0) (h2 : d = 0) (h3 : ¬ x = 0) (h4 : x = y) : Calls Tryd.prog 19 #[E2 i d, .int .i64 x, E2 j e, .int .i64 y] X fun x w' => x = .returned (.bool true) ∧ Ok w w' := by
  subst h1 h2 h4; exact c_eq h rfl (gives_bad j e x X h3)
end
/-- Ends in blocks. -/
def Bs (X : World) : List (Nat × Int × Int) → Prop
  | [] => True
  | (g, i, d) :: l => (BkE X g i d ∧ g < X.heap.size) ∧ Bs X l
theorem Bs.below {X Y : World} (hb : Below X.heap.size X Y) : ∀ {l : List (Nat × Int × Int)}, Bs X l → Bs Y l
  | [], _ => trivial
  | (_, _, _) :: _, h => ⟨⟨h.1.1.below h.1.2 hb, Nat.lt_of_lt_of_le h.1.2 hb.size⟩, Bs.below hb h.2⟩
theorem Bs.new {X : World} {l : List (Nat × Int × Int)} (h : Bs X l) (i d : Int) : Bs (X.alloc (.cells #[.int .i8 i, .int .i64 d] 24)) ((X.heap.size, i, d) :: l) := by
  obtain ⟨h1, h2, h3⟩ := end_new X i d _ rfl
  exact ⟨⟨h1, h2⟩, h.below h3⟩
end Go.Proofs.YtjgaoajbcbpbbaaDoor.end8
