/- The map of the infinities' texts: what each step on it does. -/
import Derived.Test.YtjgaoajbcbpbbaaDoorEndB
import Derived.WalkKit
namespace Go.Proofs.YtjgaoajbcbpbbaaDoor
open Go.RowKit

namespace end8
theorem underE : Tryd.prog.underlying 24 = some (.struct (Tryd.prog.fieldsOf 24)) := by kernel_rfl
theorem chk_key (em : Bool) (i d : Int) (w : World) : (Instr.checkKey em 10000 24 (E2 i d)).run Tryd.prog w = .ok () w := by
  have p0 : ∀ (a b : Value) (w : World), (part 22 #[a, b] 0).run Tryd.prog w = .ok a w := fun a b w => partN _ agg8 _ _ _ rfl w
  have p1 : ∀ (a b : Value) (w : World), (part 2 #[a, b] 1).run Tryd.prog w = .ok b w := fun a b w => partN _ agg64 _ _ _ rfl w
  have c0 : ∀ (a : Int) (w : World), (Instr.checkKey em 9999 22 (.int .i8 a)).run Tryd.prog w = .ok () w := fun a w => MapKept.run_checkKey Tryd.underlying22 (by simp [MapKept.IsKey]) em 9998
  have c1 : ∀ (a : Int) (w : World), (Instr.checkKey em 9999 2 (.int .i64 a)).run Tryd.prog w = .ok () w := fun a w => MapKept.run_checkKey Tryd.underlying2 (by simp [MapKept.IsKey]) em 9998
  show (Instr.checkKey em (9999 + 1) 24 (.agg #[.int .i8 i, .int .i64 d])).run Tryd.prog w = .ok () w
  unfold Instr.checkKey
  simp only [Sem.run_bind, run_underlying underE, Result.andThen_ok]
  rw [← Array.forIn_toList, fieldsE]
  simp [fE0, fE1, p0, p1, c0, c1, Sem.run_bind, Result.andThen_ok]
def ent (k : Int) (s : ByteArray) (n : Nat) : MapEntry := ⟨E2 k 0, .string s, n⟩
theorem run_eqE (i d j e : Int) (w : World) : (Op.equal 24 (E2 i d) (E2 j e)).run Tryd.prog w = .ok (i == j && d == e) w := eqI_any 9998 i d j e w
theorem find0 (i d : Int) (w : World) : (Instr.findKey 24 (E2 i d) []).run Tryd.prog w = .ok none w := by
  simp [Instr.findKey, run_underlying underE, Instr.findNow, Result.andThen_ok]
theorem find1 (i d k : Int) (s : ByteArray) (n : Nat) (w : World) : (Instr.findKey 24 (E2 i d) [ent k s n]).run Tryd.prog w = .ok (if (i == k && d == 0) = true then some (0, .string s) else none) w := by
  simp only [Instr.findKey, Sem.run_bind, run_underlying underE, Result.andThen_ok, Instr.findNow, Instr.sameNow, ent, Instr.findAsking, run_eqE]
  cases (i == k && d == 0) <;> rfl
theorem find2 (i d k l : Int) (s t : ByteArray) (n m : Nat) (w : World) : (Instr.findKey 24 (E2 i d) [ent k s n, ent l t m]).run Tryd.prog w = .ok (if (i == k && d == 0) = true then some (0, .string s) else if (i == l && d == 0) = true then some (1, .string t) else none) w := by
  simp only [Instr.findKey, Sem.run_bind, run_underlying underE, Result.andThen_ok, Instr.findNow, Instr.sameNow, ent, Instr.findAsking, run_eqE]
  cases h : (i == k && d == 0) <;> cases h' : (i == l && d == 0) <;> simp [Sem.run_bind, run_eqE, h', Result.andThen_ok]
theorem push_set (h : Array Obj) (x y : Obj) : (h.push x).setIfInBounds h.size y = h.push y := by
  apply Array.toList_inj.1
  simp
theorem ins_first (W : World) (k : Int) (s : ByteArray) :
    (Instr.mapUpdate 52 (.map (some W.heap.size)) (E2 k 0) (.string s)).run Tryd.prog (W.alloc (.map #[] 0)) = .ok () (W.alloc (.map #[ent k s 0] 1)) := by
  simp only [Instr.mapUpdate, Sem.run_bind, run_underlying Tryd.underlying52, Result.andThen_ok, MapKept.run_getObj_map (heap_alloc_new W (.map #[] 0)), chk_key, find0, MapKept.run_setObj_map _ (heap_alloc_new W (.map #[] 0))]
  show Result.ok () ({ W.alloc (.map #[] 0) with heap := (W.heap.push _).setIfInBounds W.heap.size _ } : World) = _
  rw [push_set]
  rfl
theorem ins_second (W : World) (k l : Int) (s t : ByteArray) (hkl : (l == k) = false) :
    (Instr.mapUpdate 52 (.map (some W.heap.size)) (E2 l 0) (.string t)).run Tryd.prog (W.alloc (.map #[ent k s 0] 1)) = .ok () (W.alloc (.map #[ent k s 0, ent l t 1] 2)) := by
  simp only [Instr.mapUpdate, Sem.run_bind, run_underlying Tryd.underlying52, Result.andThen_ok, MapKept.run_getObj_map (heap_alloc_new W (.map #[ent k s 0] 1)), chk_key, find1, hkl, Bool.false_and, Bool.false_eq_true, if_false, MapKept.run_setObj_map _ (heap_alloc_new W (.map #[ent k s 0] 1))]
  show Result.ok () ({ W.alloc (.map #[ent k s 0] 1) with heap := (W.heap.push _).setIfInBounds W.heap.size _ } : World) = _
  rw [push_set]
  rfl
/-- The block of a map that holds just two infinities with their texts. -/
def MapB (X : World) (g : Nat) : Prop := ∃ k l : Int, ∃ s t : ByteArray, (k = -1 ∧ l = 1 ∧ s = ⟨#[45, 105, 110, 102]⟩ ∧ t = ⟨#[105, 110, 102]⟩ ∨ k = 1 ∧ l = -1 ∧ s = ⟨#[105, 110, 102]⟩ ∧ t = ⟨#[45, 105, 110, 102]⟩) ∧ X.heap[g]? = some (.map #[ent k s 0, ent l t 1] 2)
theorem MapB.below {X Y : World} {g B : Nat} (h : MapB X g) (hg : g < B) (hb : Below B X Y) : MapB Y g := by
  obtain ⟨k, l, s, t, h1, h2⟩ := h
  exact ⟨k, l, s, t, h1, (hb.block g hg).trans h2⟩
/-- A look-up. -/
theorem look_any {X : World} {g : Nat} (h : MapB X g) (i d : Int) :
    (Instr.lookup 52 (.map (some g)) (E2 i d) true).run Tryd.prog X = .ok (.tuple #[.string (if i = -1 ∧ d = 0 then ⟨#[45, 105, 110, 102]⟩ else if i = 1 ∧ d = 0 then ⟨#[105, 110, 102]⟩ else ⟨#[]⟩), .bool (decide ((i = -1 ∨ i = 1) ∧ d = 0))]) X := by
  obtain ⟨k, l, s, t, h1, h2⟩ := h
  simp only [Instr.lookup, Sem.run_bind, run_underlying Tryd.underlying52, Result.andThen_ok, MapKept.run_getObj_map h2, Sem.run_pure, chk_key, find2]
  by_cases hd : d = 0
  · rcases h1 with ⟨rfl, rfl, rfl, rfl⟩ | ⟨rfl, rfl, rfl, rfl⟩
    all_goals
      by_cases hi : i = -1
      · subst hi; subst hd; rfl
      · by_cases hj : i = 1
        · subst hj; subst hd; rfl
        · simp [hi, hj, hd, Result.andThen_ok]
  · simp [hd, Result.andThen_ok]
theorem inf_any (w : World) : Calls Tryd.prog 31 #[] w fun x w' => (x = .returned (.map (some w.heap.size)) ∧ MapB w' w.heap.size) ∧ Below w.heap.size w w' ∧ w'.heap.size = w.heap.size + 1 := by
  have h1 : ∀ k s, (Instr.mapUpdate 52 (.map (some w.heap.size)) (.agg #[.int .i8 k, .int .i64 0]) (.string s)).run Tryd.prog ((w.alloc (.map #[] 0)).drew) = .ok () (w.alloc (.map #[ent k s 0] 1)).drew := fun k s => ins_first w.drew k s
  have h2 : (Instr.mapUpdate 52 (.map (some w.heap.size)) (.agg #[.int .i8 1, .int .i64 0]) (.string ⟨#[105, 110, 102]⟩)).run Tryd.prog (w.alloc (.map #[ent (-1) ⟨#[45, 105, 110, 102]⟩ 0] 1)).drew = .ok () (w.alloc (.map #[ent (-1) ⟨#[45, 105, 110, 102]⟩ 0, ent 1 ⟨#[105, 110, 102]⟩ 1] 2)).drew := ins_second w.drew (-1) 1 ⟨#[45, 105, 110, 102]⟩ ⟨#[105, 110, 102]⟩ rfl
  have h3 : (Instr.mapUpdate 52 (.map (some w.heap.size)) (.agg #[.int .i8 (-1), .int .i64 0]) (.string ⟨#[45, 105, 110, 102]⟩)).run Tryd.prog (w.alloc (.map #[ent 1 ⟨#[105, 110, 102]⟩ 0] 1)).drew = .ok () (w.alloc (.map #[ent 1 ⟨#[105, 110, 102]⟩ 0, ent (-1) ⟨#[45, 105, 110, 102]⟩ 1] 2)).drew := ins_second w.drew 1 (-1) ⟨#[105, 110, 102]⟩ ⟨#[45, 105, 110, 102]⟩ rfl
  have hm := @run_makeMap Tryd.prog
  go_enter Tryd.func31, Tryd.ntmps31
  go_wp2
  go_region
  all_goals
    go_wp2
    go_ret
  · exact ⟨⟨rfl, -1, 1, _, _, .inl ⟨rfl, rfl, rfl, rfl⟩, heap_alloc_new w _⟩, by go_grown, by simp⟩
  · exact ⟨⟨rfl, 1, -1, _, _, .inr ⟨rfl, rfl, rfl, rfl⟩, heap_alloc_new w _⟩, by go_grown, by simp⟩
end end8
end Go.Proofs.YtjgaoajbcbpbbaaDoor
