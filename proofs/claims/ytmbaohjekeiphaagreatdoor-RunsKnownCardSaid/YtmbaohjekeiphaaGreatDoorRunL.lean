/- The law's own gives, found, days; the contracts from world to world; runs in blocks. -/
import Derived.Test.YtmbaohjekeiphaaGreatDoorRunP
namespace Go.Proofs.YtmbaohjekeiphaaGreatDoor.run9
open Go.RowKit

theorem gives_ok (i d j e : Int) (w : World) :
    Calls Tryz.prog 27 #[U4 i d j e, .int .i64 0, U4 i d j e, .int .i64 0] w fun x w' => x = .returned (.bool true) ∧ Below w.heap.size w w' := by
  have q := fun w => eq_self ⟨i, d, j, e⟩ w
  go_enter Tryz.func27, Tryz.ntmps27
  go_wp2
  go_ret
  exact ⟨rfl, by go_grown⟩
theorem gives_bad (i d j e x : Int) (w : World) (h : ¬ x = 0) :
    Calls Tryz.prog 27 #[U4 0 0 0 0, .int .i64 x, U4 i d j e, .int .i64 x] w fun x w' => x = .returned (.bool true) ∧ Below w.heap.size w w' := by
  have q := fun w => eq_self ⟨0, 0, 0, 0⟩ w
  have h1 : (x != 0) = true := by rw [bne_iff_ne]; exact h
  have h2 : (x == x) = true := by simp
  go_enter Tryz.func27, Tryz.ntmps27
  go_wp2
  go_ret
  exact ⟨rfl, by go_grown⟩
theorem found_ok (i d j e : Int) (w : World) :
    Calls Tryz.prog 16 #[U4 i d j e, .bool true, U4 i d j e, .bool true] w fun x w' => x = .returned (.bool true) ∧ Below w.heap.size w w' := by
  have q := fun w => eq_self ⟨i, d, j, e⟩ w
  go_enter Tryz.func16, Tryz.ntmps16
  go_wp2
  go_ret
  exact ⟨rfl, by go_grown⟩
theorem found_no (i d j e : Int) (w : World) :
    Calls Tryz.prog 16 #[U4 0 0 0 0, .bool false, U4 i d j e, .bool false] w fun x w' => x = .returned (.bool true) ∧ Below w.heap.size w w' := by
  have q := fun w => eq_self ⟨0, 0, 0, 0⟩ w
  go_enter Tryz.func16, Tryz.ntmps16
  go_wp2
  go_ret
  exact ⟨rfl, by go_grown⟩
theorem days_any (lo hi : Int) (w : World) : Calls Tryz.prog 28 #[.int .i64 lo, .int .i64 hi] w fun x w' => x = .returned (U4 0 lo 0 hi) ∧ Below w.heap.size w w' := by
  go_enter Tryz.func28, Tryz.ntmps28
  go_upto_region 1 with fail
  obtain ⟨hK, hs, hb⟩ := run_new w 0 0 0 0 _ rfl
  generalize (w.alloc (Obj.cells #[Value.int IntKind.i8 0, Value.int IntKind.i64 0, Value.int IntKind.i8 0, Value.int IntKind.i64 0] 26)) = W1 at *
  obtain ⟨k0, k1, k2, k3⟩ := id hK.quad
  have z0 := hK.frozen 0
  have z1 := hK.frozen 1
  have z2 := hK.frozen 2
  have z3 := hK.frozen 3
  have HK := Lib.hid hK
  have HB := Lib.hid hb
  clear hK hb hs
  go_wp2
  exact bodyPost_ret (res_run1 rfl rfl (HK.out.store 0 lo 0 hi).quad) rfl ⟨rfl, set4_below HB.out (Nat.le_refl _) 0 lo 0 hi⟩

theorem c_eq {f : FuncId} {args : Array Value} {w W : World} {u v : Value} (h : Ok w W) (hv : u = v)
    (hc : Calls Tryz.prog f args W fun x w' => x = .returned u ∧ Below W.heap.size W w') :
    Calls Tryz.prog f args W fun x w' => x = .returned v ∧ Ok w w' := by
  subst hv
  exact hc.mono fun _ _ ⟨h1, h2⟩ => ⟨h1, h.step h2⟩
/-- Runs in blocks. -/
def Bs (X : World) : List (Nat × Int × Int × Int × Int) → Prop
  | [] => True
  | (g, i, d, j, e) :: l => (BkU X g i d j e ∧ g < X.heap.size) ∧ Bs X l
theorem Bs.below {X Y : World} (hb : Below X.heap.size X Y) : ∀ {l : List (Nat × Int × Int × Int × Int)}, Bs X l → Bs Y l
  | [], _ => trivial
  | (_, _, _, _, _) :: _, h => ⟨⟨h.1.1.below h.1.2 hb, Nat.lt_of_lt_of_le h.1.2 hb.size⟩, Bs.below hb h.2⟩
theorem Bs.new {X : World} {l : List (Nat × Int × Int × Int × Int)} (h : Bs X l) (i d j e : Int) : Bs (X.alloc (.cells #[.int .i8 i, .int .i64 d, .int .i8 j, .int .i64 e] 26)) ((X.heap.size, i, d, j, e) :: l) := by
  obtain ⟨h1, h2, h3⟩ := run_new X i d j e _ rfl
  exact ⟨⟨h1, by omega⟩, h.below h3⟩
theorem size_al (X : World) (o : Obj) : (X.alloc o).heap.size = X.heap.size + 1 := by simp
end Go.Proofs.YtmbaohjekeiphaaGreatDoor.run9
