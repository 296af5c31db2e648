/- The law's own small functions (num, civil, gives), each with what it returns where it says true. -/
import Derived.Test.YtiemlpmhhbmfiaaGreatDoorCivP
import Derived.Laws.StructEq
import Derived.Deep.RegionHeld3
import Derived.Deep.CutRange
import Derived.Deep.DeepCutAuto
import Derived.Deep.CutBlock
import Derived.BigQuiet
import Derived.Test.YtiemlpmhhbmfiaaGreatDoorCivB
import Derived.Test.YtiemlpmhhbmfiaaGreatDoorCivTx
namespace Go.Proofs.YtiemlpmhhbmfiaaGreatDoor.civ
open Go.RowKit

/-- A civil day as a value. -/
abbrev C3 (y m d : Int) : Value := .agg #[.int .i64 y, .int .i64 m, .int .i64 d]
noncomputable def fC (i : Nat) : Field := (Tryz.prog.fieldsOf 23).toList.getD i default
theorem fieldsC : (Tryz.prog.fieldsOf 23).toList = [fC 0, fC 1, fC 2] := by kernel_rfl
theorem fC0 : (fC 0).name = "Year" ∧ (fC 0).type = 2 ∧ (fC 0).offset = 0 := ⟨by kernel_rfl, by kernel_rfl, by kernel_rfl⟩
theorem fC1 : (fC 1).name = "Month" ∧ (fC 1).type = 3 ∧ (fC 1).offset = 1 := ⟨by kernel_rfl, by kernel_rfl, by kernel_rfl⟩
theorem fC2 : (fC 2).name = "Day" ∧ (fC 2).type = 3 ∧ (fC 2).offset = 2 := ⟨by kernel_rfl, by kernel_rfl, by kernel_rfl⟩
theorem partN (t : TypeId) (ht : ∀ w, (isAgg t).run Tryz.prog w = .ok false w) (xs : Array Value) (o : Nat) (v : Value) (h : xs[o]? = some v) (w : World) : (part t xs o).run Tryz.prog w = .ok v w := by
  simp [part, Sem.run_bind, ht, h]
theorem agg64 (w : World) : (isAgg 2).run Tryz.prog w = .ok false w := by kernel_rfl
theorem aggI (w : World) : (isAgg 3).run Tryz.prog w = .ok false w := by kernel_rfl
/-- Two civil days, field by field. -/
def eqB (y m d z n e : Int) : Bool := y == z && (m == n && d == e)
theorem eqB_same (y m d : Int) : eqB y m d y m d = true := by simp [eqB]
theorem eqB_iff {y m d z n e : Int} : eqB y m d z n e = true ↔ y = z ∧ m = n ∧ d = e := by simp [eqB]
theorem eq_any (y m d z n e : Int) (w : World) : (binOp .eql 23 (C3 y m d) (C3 z n e)).run Tryz.prog w = .ok (.bool (eqB y m d z n e)) w := by
  rw [run_eql_struct, run_equalIn_struct w 9999 23 _ _ (by kernel_rfl) (by kernel_rfl), fieldsC]
  have p0 : ∀ (a b c : Value) (w : World), (part 2 #[a, b, c] 0).run Tryz.prog w = .ok a w := fun a b c w => partN _ agg64 _ _ _ rfl w
  have p1 : ∀ (a b c : Value) (w : World), (part 3 #[a, b, c] 1).run Tryz.prog w = .ok b w := fun a b c w => partN _ aggI _ _ _ rfl w
  have p2 : ∀ (a b c : Value) (w : World), (part 3 #[a, b, c] 2).run Tryz.prog w = .ok c w := fun a b c w => partN _ aggI _ _ _ rfl w
  by_cases h1 : y = z <;> by_cases h2 : m = n <;> by_cases h3 : d = e
  all_goals
    simp [eqB, h1, h2, h3, Op.eqFields, fC0, fC1, fC2, Sem.run_bind, p0, p1, p2, Result.andThen_ok, run_equalIn_int w 9998 _ .i64 .i64 _ _ Tryz.underlying2, run_equalIn_int w 9998 _ .i64 .i64 _ _ Tryz.underlying3]

theorem num_t (n e v : Int) (w : World) (h : n = v) (h' : e = 0) :
    Calls Tryz.prog 33 #[.int .i64 n, .int .i64 e, .int .i64 v] w fun x w' => x = .returned (.bool true) ∧ w = w' := by
  subst h h'
  have t1 : (n == n) = true := by simp
  go_enter Tryz.func33, Tryz.ntmps33
  go_wp2
  go_ret
  exact ⟨rfl, rfl⟩
theorem civil_any (y m d : Int) (w : World) :
    Calls Tryz.prog 23 #[.int .i64 y, .int .i64 m, .int .i64 d] w fun x w' => x = .returned (C3 y m d) ∧ Below w.heap.size w w' := by
  go_enter Tryz.func23, Tryz.ntmps23
  go_wp2
  obtain ⟨t0, -, t2⟩ := tri_new w y m d 23 _ rfl
  exact bodyPost_ret (res_civil (g := w.heap.size) rfl rfl t0) rfl ⟨rfl, t2⟩
theorem gives_ok (y m d : Int) (w : World) :
    Calls Tryz.prog 19 #[C3 y m d, .int .i64 0, C3 y m d, .int .i64 0] w fun x w' => x = .returned (.bool true) ∧ Below w.heap.size w w' := by
  have q := fun w => eq_any y m d y m d w
  rw [eqB_same] at q
  go_enter Tryz.func19, Tryz.ntmps19
  go_wp2
  go_ret
  exact ⟨rfl, by go_grown⟩
theorem gives_bad (y m d e : Int) (w : World) (h : ¬ e = 0) :
    Calls Tryz.prog 19 #[C3 0 0 0, .int .i64 e, C3 y m d, .int .i64 e] w fun x w' => x = .returned (.bool true) ∧ Below w.heap.size w w' := by
  have q := fun w => eq_any 0 0 0 0 0 0 w
  rw [eqB_same] at q
  have he : (e != 0) = true := by rw [bne_iff_ne]; exact h
  have he2 : (e == e) = true := by simp
  go_enter Tryz.func19, Tryz.ntmps19
  go_wp2
  go_ret
  exact ⟨rfl, by go_grown⟩
end Go.Proofs.YtiemlpmhhbmfiaaGreatDoor.civ
/- Civil days as numbers: there and back, ordinals, and their order. No program is in it. -/
namespace Go.Proofs.YtiemlpmhhbmfiaaGreatDoor

theorem civ_back {y m d : Int} (h : cE y m d = 0) : yrOf (cday y m d) = y ∧ ((moOf (cday y m d) : Nat) : Int) = m ∧ cDy (cday y m d) = d ∧ yr y = true ∧ 1 ≤ m ∧ m ≤ 12 ∧ 1 ≤ d ∧ d ≤ 31 := by
  obtain ⟨h1, h2, h3⟩ := cE_zero.1 h
  obtain ⟨hy, hm⟩ := mE_zero.1 h1
  rw [mo_iff] at hm
  have hl := mlen_bd y m
  obtain ⟨N, hN⟩ : ∃ N : Nat, m = (N : Int) + 1 := ⟨(m - 1).toNat, by omega⟩
  have hc : cday y m d = mst y N + (d - 1) := by unfold cday; rw [show (m - 1).toNat = N by omega]
  have hs : mst y (N + 1) = mst y N + mlen y m := by rw [hN]; rfl
  obtain ⟨q1, q2⟩ := mo_eq (d := cday y m d) (y := y) (n := N + 1) (by omega) (by omega) (by rw [hc]; show mst y N ≤ _; omega) (by rw [hc]; omega)
  refine ⟨q1, by rw [q2]; omega, ?_, hy, hm.1, hm.2, h2, by omega⟩
  unfold cDy
  rw [q1, q2, hc, show N + 1 - 1 = N by omega]; omega
theorem mst_prev (y : Int) (n : Nat) (h : 1 ≤ n) : mst y n = mst y (n - 1) + mlen y (n : Nat) := by
  obtain ⟨k, rfl⟩ : ∃ k, n = k + 1 := ⟨n - 1, by omega⟩
  show mst y k + mlen y ((k : Int) + 1) = _
  rw [show k + 1 - 1 = k by omega, show (((k + 1 : Nat)) : Int) = (k : Int) + 1 by omega]
theorem civ_of_ok {day : Int} (h : yr (yrOf day) = true) : cE (yrOf day) (moOf day : Nat) (cDy day) = 0 ∧ cday (yrOf day) (moOf day : Nat) (cDy day) = day := by
  obtain ⟨s0, s1, s2, s3⟩ := moOf_spec day
  have hs := mst_prev (yrOf day) (moOf day) s0
  constructor
  · rw [cE_zero, mE_zero, mo_iff]
    unfold cDy
    exact ⟨⟨h, by omega, by omega⟩, by omega, by omega⟩
  · unfold cday cDy
    rw [show (((moOf day : Nat) : Int) - 1).toNat = moOf day - 1 by omega]; omega
theorem cDy_bd (day : Int) : 1 ≤ cDy day ∧ cDy day ≤ 31 := by
  obtain ⟨s0, s1, s2, s3⟩ := moOf_spec day
  have hs := mst_prev (yrOf day) (moOf day) s0
  have hl := mlen_bd (yrOf day) (moOf day : Nat)
  unfold cDy; omega
theorem moOf_bd (day : Int) : 1 ≤ moOf day ∧ moOf day ≤ 12 := ⟨(moOf_spec day).1, (moOf_spec day).2.1⟩
/-- The days of a year are those with an ordinal. -/
theorem ord_in {y n : Int} (h1 : 1 ≤ n) (h2 : n ≤ lenI y) : yrOf (stI y + n - 1) = y := by
  have := stI_succ y
  exact yrOf_eq (by omega) (by omega)
theorem ord_bd {y m d : Int} (h : cE y m d = 0) : 1 ≤ cday y m d - stI y + 1 ∧ cday y m d - stI y + 1 ≤ lenI y ∧ stI y + (cday y m d - stI y + 1) - 1 = cday y m d := by
  obtain ⟨q1, -⟩ := civ_back h
  have h1 := yrOf_spec (cday y m d)
  rw [q1] at h1
  have := stI_succ y
  omega
theorem fE_ok {y n : Int} (hy : yr y = true) (h1 : 1 ≤ n) (h2 : n ≤ lenI y) : fE y n = 0 := by unfold fE; rw [if_pos hy, if_pos ⟨h1, h2⟩]
theorem fE_no {y n : Int} (hy : yr y = false) : fE y n = 6 := by unfold fE; rw [hy]; rfl
theorem fE_out {y n : Int} (hy : yr y = true) (h : ¬ (1 ≤ n ∧ n ≤ lenI y)) : fE y n = 4 := by unfold fE; rw [if_pos hy, if_neg h]
theorem fV_ok {y n : Int} (h : fE y n = 0) (v : Int) : fV y n v = v := if_pos h
theorem fV_no {y n : Int} (h : ¬ fE y n = 0) (v : Int) : fV y n v = 0 := if_neg h
theorem oV_ok {d : Int} (h : yr (yrOf d) = true) (v : Int) : oV d v = v := if_pos h
theorem oE_ok {d : Int} (h : yr (yrOf d) = true) : oE d = 0 := if_pos h
theorem oV_no {d : Int} (h : yr (yrOf d) = false) (v : Int) : oV d v = 0 := if_neg (by rw [h]; decide)
theorem oE_no {d : Int} (h : yr (yrOf d) = false) : oE d = 6 := if_neg (by rw [h]; decide)
theorem mst_lt {y : Int} {a b : Nat} (_ha : 1 ≤ a) (hab : a < b) : mst y a ≤ mst y (b - 1) := mst_mono y (by omega)
def sgn (a b : Int) : Int := if a < b then -1 else if b < a then 1 else 0
theorem cm1_lt {a b r : Int} (h : a < b) : cm1 a b r = -1 := if_pos h
theorem cm1_gt {a b r : Int} (h : b < a) : cm1 a b r = 1 := by unfold cm1; rw [if_neg (by omega), if_pos h]
theorem cm1_eq (a r : Int) : cm1 a a r = r := by unfold cm1; rw [if_neg (by omega), if_neg (by omega)]
theorem civ_lt {a b : Int} (h : a < b) : cm3 (yrOf a) (moOf a : Nat) (cDy a) (yrOf b) (moOf b : Nat) (cDy b) = -1 := by
  obtain ⟨a1, a2⟩ := yrOf_spec a
  obtain ⟨b1, b2⟩ := yrOf_spec b
  obtain ⟨s0, s1, s2, s3⟩ := moOf_spec a
  obtain ⟨t0, t1, t2, t3⟩ := moOf_spec b
  unfold cm3
  rcases Int.lt_trichotomy (yrOf a) (yrOf b) with hy | hy | hy
  · exact cm1_lt hy
  · rw [← hy] at t2 t3 ⊢
    rw [cm1_eq]
    rcases Nat.lt_trichotomy (moOf a) (moOf b) with hm | hm | hm
    · exact cm1_lt (by omega)
    · have hd : cDy a < cDy b := by unfold cDy; rw [← hy, ← hm]; omega
      rw [← hm, cm1_eq]
      exact cm1_lt hd
    · exfalso
      have := mst_lt (y := yrOf a) t0 hm
      omega
  · exfalso
    have := stI_le (show yrOf b + 1 ≤ yrOf a by omega)
    omega
theorem cm1_swap (a b r r' : Int) (h : r' = -r) : cm1 b a r' = -cm1 a b r := by unfold cm1; split <;> split <;> first | omega | (split <;> omega)
theorem cm3_swap (a b c x y z : Int) : cm3 x y z a b c = -cm3 a b c x y z := cm1_swap _ _ _ _ (cm1_swap _ _ _ _ (cm1_swap _ _ _ _ rfl))
theorem civ_sgn (a b : Int) : cm3 (yrOf a) (moOf a : Nat) (cDy a) (yrOf b) (moOf b : Nat) (cDy b) = sgn a b := by
  unfold sgn
  rcases Int.lt_trichotomy a b with h | h | h
  · rw [if_pos h, civ_lt h]
  · subst h
    rw [if_neg (by omega), if_neg (by omega)]
    unfold cm3; rw [cm1_eq, cm1_eq, cm1_eq]
  · rw [if_neg (by omega), if_pos h, cm3_swap, civ_lt h]; rfl
theorem cm1_cases (a b r : Int) : (a < b ∧ cm1 a b r = -1) ∨ (a = b ∧ cm1 a b r = r) ∨ (b < a ∧ cm1 a b r = 1) := by
  rcases Int.lt_trichotomy a b with h | h | h
  · exact .inl ⟨h, cm1_lt h⟩
  · subst h; exact .inr (.inl ⟨rfl, cm1_eq _ _⟩)
  · exact .inr (.inr ⟨h, cm1_gt h⟩)
theorem cm3_zero {a b c x y z : Int} : cm3 a b c x y z = 0 ↔ a = x ∧ b = y ∧ c = z := by
  unfold cm3
  rcases cm1_cases c z 0 with ⟨h3, e3⟩ | ⟨h3, e3⟩ | ⟨h3, e3⟩ <;> rw [e3]
  all_goals (rcases cm1_cases b y _ with ⟨h2, e2⟩ | ⟨h2, e2⟩ | ⟨h2, e2⟩ <;> rw [e2])
  all_goals (rcases cm1_cases a x _ with ⟨h1, e1⟩ | ⟨h1, e1⟩ | ⟨h1, e1⟩ <;> rw [e1] <;> omega)
theorem cm3_bd (a b c x y z : Int) : -1 ≤ cm3 a b c x y z ∧ cm3 a b c x y z ≤ 1 := by
  unfold cm3 cm1; split
  · omega
  · split
    · omega
    · split
      · omega
      · split
        · omega
        · split
          · omega
          · split <;> omega
theorem cm3_le {a b c x y z : Int} : cm3 a b c x y z ≤ 0 ↔ a < x ∨ (a = x ∧ (b < y ∨ (b = y ∧ c ≤ z))) := by
  unfold cm3
  rcases cm1_cases c z 0 with ⟨h3, e3⟩ | ⟨h3, e3⟩ | ⟨h3, e3⟩ <;> rw [e3]
  all_goals (rcases cm1_cases b y _ with ⟨h2, e2⟩ | ⟨h2, e2⟩ | ⟨h2, e2⟩ <;> rw [e2])
  all_goals (rcases cm1_cases a x _ with ⟨h1, e1⟩ | ⟨h1, e1⟩ | ⟨h1, e1⟩ <;> rw [e1] <;> omega)
theorem cm3_trans {a b c x y z u v w : Int} (h1 : cm3 a b c x y z ≤ 0) (h2 : cm3 x y z u v w ≤ 0) : cm3 a b c u v w ≤ 0 := by
  rw [cm3_le] at *; omega
theorem wdI_bd (d : Int) : 0 ≤ wdI d ∧ wdI d < 7 := by unfold wdI; omega
theorem wdI_next (d : Int) : wdI (d + 1) = (wdI d + 1) % 7 := by unfold wdI; omega
end Go.Proofs.YtiemlpmhhbmfiaaGreatDoor
/- The contracts from world to world; the examples of the chapter (lives). -/
namespace Go.Proofs.YtiemlpmhhbmfiaaGreatDoor.civ
open Go.RowKit

theorem c_eq {f : FuncId} {args : Array Value} {w W : World} {u v : Value} (h : Ok w W) (hv : u = v)
    (hc : Calls Tryz.prog f args W fun x w' => x = .returned u ∧ Below W.heap.size W w') :
    Calls Tryz.prog f args W fun x w' => x = .returned v ∧ Ok w w' := by
  subst hv
  exact hc.mono fun _ _ ⟨h1, h2⟩ => ⟨h1, h.step h2⟩
section
variable {w X : World}
theorem c_same {f : FuncId} {args : Array Value} {u : Value} (h : Ok w X) (hc : Calls Tryz.prog f args X fun x w' => x = .returned u ∧ X = w') :
    Calls Tryz.prog f args X fun x w' => x = .returned u ∧ Ok w w' := hc.mono fun _ _ ⟨h1, h2⟩ => ⟨h1, h2 ▸ h⟩
theorem c_below {f : FuncId} {args : Array Value} {u : Value} (h : Ok w X) (hc : Calls Tryz.prog f args X fun x w' => x = .returned u ∧ Below X.heap.size X w') :
    Calls Tryz.prog f args X fun x w' => x = .returned u ∧ Ok w w' := hc.mono fun _ _ ⟨h1, h2⟩ => ⟨h1, h.step h2⟩
variable (h : Ok w X) (y m d : Int) (hy : I64 y) (hm : I64 m) (hd : I64 d)
include h hy hm hd
set_option maxRecDepth 100000 in
theorem c_check {e : Int} (he : cE y m d = e) : Calls Tryz.prog 13 #[C3 y m d] X fun x w' => x = .returned (.int .i64 e) ∧ Ok w w' := c_eq h (by rw [he]) (civ_check y m d X h.1 hy hm hd)
set_option maxRecDepth 100000 in
theorem c_day {v e : Int} (hv : cV y m d (cday y m d) = v) (he : cE y m d = e) : Calls Tryz.prog 11 #[C3 y m d] X fun x w' => x = .returned (.tuple #[.int .i64 v, .int .i64 e]) ∧ Ok w w' := c_eq h (by rw [hv, he]) (civ_day y m d X h.1 hy hm hd)
set_option maxRecDepth 100000 in
theorem c_ord {v e : Int} (hv : cV y m d (cday y m d - stI y + 1) = v) (he : cE y m d = e) : Calls Tryz.prog 12 #[C3 y m d] X fun x w' => x = .returned (.tuple #[.int .i64 v, .int .i64 e]) ∧ Ok w w' := c_eq h (by rw [hv, he]) (civ_ord y m d X h.1 hy hm hd)
set_option maxRecDepth 100000 in
theorem c_text {s : ByteArray} {e : Int} (hv : cTx y m d = s) (he : cE y m d = e) : Calls Tryz.prog 27 #[C3 y m d] X fun x w' => x = .returned (.tuple #[.string s, .int .i64 e]) ∧ Ok w w' := c_eq h (by rw [hv, he]) (civ_text y m d X h.1 hy hm hd)
set_option maxRecDepth 100000 in
theorem c_cmp (x u v : Int) (hx : I64 x) (hu : I64 u) (hv : I64 v) {r : Int} (hr : cm3 y m d x u v = r) : Calls Tryz.prog 25 #[C3 y m d, C3 x u v] X fun x w' => x = .returned (.int .i64 r) ∧ Ok w w' := c_eq h (by rw [hr]) (civ_cmp y m d X h.1 hy hm hd x u v hx hu hv)
end
section
variable {w X : World} (h : Ok w X)
include h
set_option maxRecDepth 100000 in
theorem c_of (d : Int) (hd : I64 d) {y m r e : Int} (hy : oV d (yrOf d) = y) (hm : oV d (moOf d : Nat) = m) (hr : oV d (cDy d) = r) (he : oE d = e) : Calls Tryz.prog 16 #[.int .i64 d] X fun x w' => x = .returned (.tuple #[C3 y m r, .int .i64 e]) ∧ Ok w w' := c_eq h (by rw [hy, hm, hr, he]) (civ_of d X h.1 hd)
set_option maxRecDepth 100000 in
theorem c_wd (d : Int) (hd : I64 d) {v : Int} (hv : wdI d = v) : Calls Tryz.prog 20 #[.int .i64 d] X fun x w' => x = .returned (.int .i64 v) ∧ Ok w w' := c_eq h (by rw [hv]) (civ_wd d X h.1 hd)
set_option maxRecDepth 100000 in
theorem c_from (y n : Int) (hy : I64 y) (hn : I64 n) {z m r e : Int} (hz : fV y n y = z) (hm : fV y n (moOf (stI y + n - 1) : Nat) = m) (hr : fV y n (cDy (stI y + n - 1)) = r) (he : fE y n = e) : Calls Tryz.prog 17 #[.int .i64 y, .int .i64 n] X fun x w' => x = .returned (.tuple #[C3 z m r, .int .i64 e]) ∧ Ok w w' := c_eq h (by rw [hz, hm, hr, he]) (civ_from y n X h.1 hy hn)
set_option maxRecDepth 100000 in
theorem c_parse (s : ByteArray) (hl : s.size ≤ pMax) {y m d e : Int} (hy : cpV s.data.toList (cY s.data.toList) = y) (hm : cpV s.data.toList (cM s.data.toList) = m) (hd : cpV s.data.toList (cD s.data.toList) = d) (he : cpE s.data.toList = e) : Calls Tryz.prog 28 #[.string s] X fun x w' => x = .returned (.tuple #[C3 y m d, .int .i64 e]) ∧ Ok w w' := c_eq h (by rw [hy, hm, hd, he]) (civ_parse s X h.1 hl)
set_option maxRecDepth 100000 in
theorem c_civil (y m d : Int) : Calls Tryz.prog 23 #[.int .i64 y, .int .i64 m, .int .i64 d] X fun x w' => x = .returned (C3 y m d) ∧ Ok w w' := c_below h (civil_any y m d X)
set_option maxRecDepth 100000 in
theorem c_gok {y m d z n e : Int} (h1 : y = z) (h2 : m = n) (h3 : d = e) : Calls Tryz.prog 19 #[C3 y m d, .int .i64 0, C3 z n e, .int .i64 0] X fun x w' => x = .returned (.bool true) ∧ Ok w w' := by
  subst h1 h2 h3; exact c_below h (gives_ok y m d X)
set_option maxRecDepth 100000 in
theorem c_gbad {y m d e e' : Int} (h0 : ¬ e = 0) (h1 : e = e') : Calls Tryz.prog 19 #[C3 0 0 0, .int .i64 e, C3 y m d, .int .i64 e'] X fun x w' => x = .returned (.bool true) ∧ Ok w w' := by
  subst h1; exact c_below h (gives_bad y m d e X h0)
set_option maxRecDepth 100000 in
theorem c_num {n e v : Int} (h1 : n = v) (h2 : e = 0) : Calls Tryz.prog 33 #[.int .i64 n, .int .i64 e, .int .i64 v] X fun x w' => x = .returned (.bool true) ∧ Ok w w' := c_same h (num_t n e v X h1 h2)
end

theorem ok_set3 {w X : World} (hs : Start w) (h : Below w.heap.size w X) {g : Nat} (hg : w.heap.size ≤ g) (x y z : Int) : Ok w (setC3 X g x y z) := by
  have hb : Below w.heap.size w (setC3 X g x y z) := ((h.setCell (p := ⟨g, 0, none⟩) hg _).setCell (p := ⟨g, 1, none⟩) hg _).setCell (p := ⟨g, 2, none⟩) hg _
  exact ⟨hs.below hb, hb⟩
theorem dd (n : Nat) (h : n < 10) : Lib.decDigits n = [UInt8.ofNat (48 + n)] := by rw [Lib.decDigits, dif_pos h]
theorem dd5 : Lib.decDigits 12345 = [49, 50, 51, 52, 53] := by
  rw [Lib.decDigits, dif_neg (by decide), Lib.decDigits, dif_neg (by decide), Lib.decDigits, dif_neg (by decide), Lib.decDigits, dif_neg (by decide), Lib.decDigits, dif_pos (by decide)]; rfl
theorem txA : cTx 5 6 7 = ⟨#[48, 48, 48, 53, 45, 48, 54, 45, 48, 55]⟩ := by
  have h : cE 5 6 7 = 0 := by decide +kernel
  unfold cTx
  rw [if_pos h]
  unfold civS ctx ytx padd
  rw [show (5 : Int).natAbs = 5 from rfl, dd 5 (by decide)]
  decide +kernel
theorem txB : cTx (-12345) 11 30 = ⟨#[45, 49, 50, 51, 52, 53, 45, 49, 49, 45, 51, 48]⟩ := by
  have h : cE (-12345) 11 30 = 0 := by decide +kernel
  unfold cTx
  rw [if_pos h]
  unfold civS ctx ytx padd
  rw [show (-12345 : Int).natAbs = 12345 from rfl, dd5]
  decide +kernel

def stL : List ByteArray := [⟨#[53, 45, 48, 54, 45, 48, 55]⟩, ⟨#[45, 48, 48, 48, 48, 45, 48, 49, 45, 48, 49]⟩, ⟨#[50, 48, 48, 49, 45, 48, 50, 45, 50, 57]⟩, ⟨#[50, 48, 48, 49, 45, 50, 45, 48, 51]⟩]
def st (i : Nat) : ByteArray := stL.getD i ⟨#[]⟩
def erL : List Int := [5, 5, 8, 5]
def er (i : Nat) : Int := erL.getD i 0
def SRow (p : Nat) (X : World) : Prop := p < X.heap.size ∧ ∀ i, i < 4 → X.cell? ⟨p, i, none⟩ = some (.string (st i))
def ERow (p : Nat) (X : World) : Prop := p < X.heap.size ∧ ∀ i, i < 4 → X.cell? ⟨p, i, none⟩ = some (.int .i64 (er i))
theorem SRow.below {p : Nat} {X Y : World} (h : SRow p X) (hb : Below X.heap.size X Y) : SRow p Y :=
  ⟨Nat.lt_of_lt_of_le h.1 hb.size, fun i hi => (hb.cell (p := ⟨p, i, none⟩) h.1).trans (h.2 i hi)⟩
theorem ERow.below {p : Nat} {X Y : World} (h : ERow p X) (hb : Below X.heap.size X Y) : ERow p Y :=
  ⟨Nat.lt_of_lt_of_le h.1 hb.size, fun i hi => (hb.cell (p := ⟨p, i, none⟩) h.1).trans (h.2 i hi)⟩
theorem cell_far (w : World) (g p i : Nat) (x y z : Int) (h : p ≠ g) : (setC3 w g x y z).cell? ⟨p, i, none⟩ = w.cell? ⟨p, i, none⟩ := by
  have : (setC3 w g x y z).heap[p]? = w.heap[p]? := (heap_setCell_other _ ⟨g, 2, none⟩ p _ h).trans ((heap_setCell_other _ ⟨g, 1, none⟩ p _ h).trans (heap_setCell_other _ ⟨g, 0, none⟩ p _ h))
  exact World.cell?_of_block this
theorem SRow.far {p g : Nat} {X : World} (h : SRow p X) (hp : p ≠ g) (x y z : Int) : SRow p (setC3 X g x y z) :=
  ⟨by rw [setC3_size]; exact h.1, fun i hi => (cell_far X g p i x y z hp).trans (h.2 i hi)⟩
theorem ERow.far {p g : Nat} {X : World} (h : ERow p X) (hp : p ≠ g) (x y z : Int) : ERow p (setC3 X g x y z) :=
  ⟨by rw [setC3_size]; exact h.1, fun i hi => (cell_far X g p i x y z hp).trans (h.2 i hi)⟩
theorem ex_is (i : Nat) (h : i < 4) : cpE (st i).data.toList = er i ∧ (∀ v, cpV (st i).data.toList v = 0) ∧ ¬ er i = 0 ∧ (st i).size ≤ 20 := by
  have : ∀ j : Fin 4, cpE (st j).data.toList = er j ∧ ¬ er j = 0 ∧ (st j).size ≤ 20 := by decide +kernel
  obtain ⟨h1, h2, h3⟩ := this ⟨i, h⟩
  exact ⟨h1, fun v => if_neg (by rw [h1]; exact h2), h2, h3⟩
theorem rows_new (w W : World) (hW : W = (w.alloc (Obj.cells #[Value.string ⟨#[53, 45, 48, 54, 45, 48, 55]⟩, Value.string ⟨#[45, 48, 48, 48, 48, 45, 48, 49, 45, 48, 49]⟩, Value.string ⟨#[50, 48, 48, 49, 45, 48, 50, 45, 50, 57]⟩, Value.string ⟨#[50, 48, 48, 49, 45, 50, 45, 48, 51]⟩] 9)).alloc (Obj.cells #[Value.int IntKind.i64 5, Value.int IntKind.i64 5, Value.int IntKind.i64 8, Value.int IntKind.i64 5] 24)) :
    SRow w.heap.size W ∧ ERow (w.heap.size + 1) W ∧ Below w.heap.size w W := by
  subst hW
  refine ⟨⟨by simp; omega, fun i hi => ?_⟩, ⟨by simp, fun i hi => ?_⟩, ((Below.refl _ _).alloc (Nat.le_refl _) _).alloc (by simp) _⟩
  · rw [cell_of_row _ _ i _ _ (0, 0) (heap_alloc2_old _ _ _)]
    match i, hi with
    | 0, _ | 1, _ | 2, _ | 3, _ => rfl
  · rw [cell_of_row _ _ i _ _ (0, 0) (heap_alloc2_new _ _ _)]
    match i, hi with
    | 0, _ | 1, _ | 2, _ | 3, _ => rfl

set_option maxRecDepth 100000 in
set_option maxHeartbeats 8000000 in
theorem lives_t (w W : World) (h0 : Ok w W) : Calls Tryz.prog 14 #[] W fun e w' => e = .returned (.bool true) ∧ Ok w w' := by
  go_enter Tryz.func14, Tryz.ntmps14
  have hs := h0.1
  have h := Ok.refl h0.1
  go_upto_region 8 with (first
        | (go_at_call 23; refine (c_civil (by assumption) _ _ _).mono ?_; rintro e w' ⟨rfl, hk⟩)
        | (go_at_call 33; refine (c_num (by assumption) (by rfl) (by rfl)).mono ?_; rintro e w' ⟨rfl, hk⟩)
        | (go_at_call 11; ((with_reducible refine (c_day (by assumption) 0 1 1 (by unfold I64; omega) (by unfold I64; omega) (by unfold I64; omega) (v := 0) (e := 0) (by decide +kernel) (by decide +kernel)).mono ?_); rintro e w' ⟨rfl, hk⟩))
        | (go_at_call 11; ((with_reducible refine (c_day (by assumption) 1970 1 1 (by unfold I64; omega) (by unfold I64; omega) (by unfold I64; omega) (v := 719528) (e := 0) (by decide +kernel) (by decide +kernel)).mono ?_); rintro e w' ⟨rfl, hk⟩))
        | (go_at_call 11; ((with_reducible refine (c_day (by assumption) 2000 2 30 (by unfold I64; omega) (by unfold I64; omega) (by unfold I64; omega) (v := 0) (e := 8) (by decide +kernel) (by decide +kernel)).mono ?_); rintro e w' ⟨rfl, hk⟩))
        | (go_at_call 11; ((with_reducible refine (c_day (by assumption) 1 13 1 (by unfold I64; omega) (by unfold I64; omega) (by unfold I64; omega) (v := 0) (e := 7) (by decide +kernel) (by decide +kernel)).mono ?_); rintro e w' ⟨rfl, hk⟩))
        | (go_at_call 16; ((with_reducible refine (c_of (by assumption) (-1) (by unfold I64; omega) (y := -1) (m := 12) (r := 31) (e := 0) (by decide +kernel) (by decide +kernel) (by decide +kernel) (by decide +kernel)).mono ?_); rintro e w' ⟨rfl, hk⟩)))
  have hB := BkC.new w' (-1) 12 31
  have ho0 := hk.step ((Below.refl _ _).alloc (Nat.le_refl _) (.cells #[.int .i64 (-1), .int .i64 12, .int .i64 31] 23))
  have hgW : W.heap.size ≤ w'.heap.size := hk.2.size
  have lg : w'.heap.size < (w'.alloc (.cells #[.int .i64 (-1), .int .i64 12, .int .i64 31] 23)).heap.size := by simp
  generalize (w'.alloc (Obj.cells #[Value.int IntKind.i64 (-1), Value.int IntKind.i64 12, Value.int IntKind.i64 31] 23)) = W1 at *
  generalize w'.heap.size = g at *
  have hr := Ok.refl ho0.1
  clear h hk
  go_upto_region 9 with (first
        | (go_at_call 16; ((with_reducible refine (c_of (w := W1) (by assumption) 730544 (by unfold I64; omega) (y := 2000) (m := 2) (r := 29) (e := 0) (by decide +kernel) (by decide +kernel) (by decide +kernel) (by decide +kernel)).mono ?_); rintro e w' ⟨rfl, hk⟩)))
  have hB2 := BkC.new w' 2000 2 29
  have hb1 := hk.2.alloc hk.2.size (.cells #[.int .i64 (2000), .int .i64 2, .int .i64 29] 23)
  have lk : w'.heap.size < (w'.alloc (.cells #[.int .i64 (2000), .int .i64 2, .int .i64 29] 23)).heap.size := by simp
  have hgk : g < w'.heap.size := Nat.lt_of_lt_of_le lg hk.2.size
  generalize (w'.alloc (Obj.cells #[Value.int IntKind.i64 (2000), Value.int IntKind.i64 2, Value.int IntKind.i64 29] 23)) = W2 at *
  generalize w'.heap.size = k at *
  have hB1 := hB.below lg hb1
  have ho := ho0.step hb1
  replace lg := Nat.lt_of_lt_of_le lg hb1.size
  have hkW : W.heap.size ≤ k := by omega
  replace hr := Ok.refl ho.1
  clear hk hb1 hB ho0
  obtain ⟨f0, f1, f2⟩ := hB1.three
  obtain ⟨f3, f4, f5⟩ := hB2.three
  go_cut [90] (fun sb wx => sb = .bool false ∧ Below W2.heap.size W2 wx)
  case first =>
    go_region_held3 (fun w' => w'.cell? ⟨g, 0, none⟩ = some (.int .i64 (-1)) ∧ w'.cell? ⟨g, 1, none⟩ = some (.int .i64 (12)) ∧ w'.cell? ⟨g, 2, none⟩ = some (.int .i64 (31)) ∧ w'.cell? ⟨k, 0, none⟩ = some (.int .i64 (2000)) ∧ w'.cell? ⟨k, 1, none⟩ = some (.int .i64 (2)) ∧ w'.cell? ⟨k, 2, none⟩ = some (.int .i64 (29))) (go_keep)
      (first
        | (go_at_call 23; ((with_reducible refine (c_civil (w := W2) (hr.step (by go_grown)) _ _ _).mono ?_); rintro e w' ⟨rfl, hk⟩; have hX := hk.2; have k0 := (hk.2.cell (p := ⟨g, 0, none⟩) lg).trans f0; have k1 := (hk.2.cell (p := ⟨g, 1, none⟩) lg).trans f1; have k2 := (hk.2.cell (p := ⟨g, 2, none⟩) lg).trans f2; have k3 := (hk.2.cell (p := ⟨k, 0, none⟩) lk).trans f3; have k4 := (hk.2.cell (p := ⟨k, 1, none⟩) lk).trans f4; have k5 := (hk.2.cell (p := ⟨k, 2, none⟩) lk).trans f5))
        | (go_at_call 19; ((with_reducible refine (c_gok (w := W2) (hr.step (by go_grown)) (by rfl) (by rfl) (by rfl)).mono ?_); rintro e w' ⟨rfl, hk⟩; have hX := hk.2; have k0 := (hk.2.cell (p := ⟨g, 0, none⟩) lg).trans f0; have k1 := (hk.2.cell (p := ⟨g, 1, none⟩) lg).trans f1; have k2 := (hk.2.cell (p := ⟨g, 2, none⟩) lg).trans f2; have k3 := (hk.2.cell (p := ⟨k, 0, none⟩) lk).trans f3; have k4 := (hk.2.cell (p := ⟨k, 1, none⟩) lk).trans f4; have k5 := (hk.2.cell (p := ⟨k, 2, none⟩) lk).trans f5))
        | (go_at_call 20; ((with_reducible refine (c_wd (w := W2) (hr.step (by go_grown)) 0 (by unfold I64; omega) (v := 5) (by decide +kernel)).mono ?_); rintro e w' ⟨rfl, hk⟩; have hX := hk.2; have k0 := (hk.2.cell (p := ⟨g, 0, none⟩) lg).trans f0; have k1 := (hk.2.cell (p := ⟨g, 1, none⟩) lg).trans f1; have k2 := (hk.2.cell (p := ⟨g, 2, none⟩) lg).trans f2; have k3 := (hk.2.cell (p := ⟨k, 0, none⟩) lk).trans f3; have k4 := (hk.2.cell (p := ⟨k, 1, none⟩) lk).trans f4; have k5 := (hk.2.cell (p := ⟨k, 2, none⟩) lk).trans f5))
        | (go_at_call 20; ((with_reducible refine (c_wd (w := W2) (hr.step (by go_grown)) 719528 (by unfold I64; omega) (v := 3) (by decide +kernel)).mono ?_); rintro e w' ⟨rfl, hk⟩; have hX := hk.2; have k0 := (hk.2.cell (p := ⟨g, 0, none⟩) lg).trans f0; have k1 := (hk.2.cell (p := ⟨g, 1, none⟩) lg).trans f1; have k2 := (hk.2.cell (p := ⟨g, 2, none⟩) lg).trans f2; have k3 := (hk.2.cell (p := ⟨k, 0, none⟩) lk).trans f3; have k4 := (hk.2.cell (p := ⟨k, 1, none⟩) lk).trans f4; have k5 := (hk.2.cell (p := ⟨k, 2, none⟩) lk).trans f5)))
    all_goals
      go_wp2_with fail
      go_meet
      exact ⟨rfl, hX⟩
  case rest =>
    obtain ⟨rfl, hX⟩ := hcut
    replace hB1 := hB1.below lg hX
    replace hB2 := hB2.below lk hX
    replace ho := ho.step hX
    replace lg := Nat.lt_of_lt_of_le lg hX.size
    replace lk := Nat.lt_of_lt_of_le lk hX.size
    clear hr f0 f1 f2 f3 f4 f5 hX
    have hr := Ok.refl ho.1
    go_upto_region 12 with (first
          | (go_at_call 23; refine (c_civil (w := wc) (by assumption) _ _ _).mono ?_; rintro e w' ⟨rfl, hk⟩)
          | (go_at_call 12; ((with_reducible refine (c_ord (w := wc) (by assumption) 2000 3 1 (by unfold I64; omega) (by unfold I64; omega) (by unfold I64; omega) (v := 61) (e := 0) (by decide +kernel) (by decide +kernel)).mono ?_); rintro e w' ⟨rfl, hk⟩)))
    go_upto_region 13 with (first
          | (go_at_call 17; ((with_reducible refine (c_from (w := wc) (by assumption) 1900 60 (by unfold I64; omega) (by unfold I64; omega) (z := 1900) (m := 3) (r := 1) (e := 0) (by decide +kernel) (by decide +kernel) (by decide +kernel) (by decide +kernel)).mono ?_); rintro e w' ⟨rfl, hk⟩; obtain ⟨q0, q1, q2⟩ := (BkC.below hB1 lg hk.2).three; have z0 := (BkC.below hB1 lg hk.2).frozen 0; have z1 := (BkC.below hB1 lg hk.2).frozen 1; have z2 := (BkC.below hB1 lg hk.2).frozen 2)))
    have n1 := (hB1.below lg hk.2).store (1900) (3) (1)
    have n2 := bkc_far (hB2.below lk hk.2) (by omega) (1900) (3) (1) (g := g)
    have n3 := ok_set3 hs (ho.2.trans (hk.2.mono ho.2.size)) hgW (1900) (3) (1)
    have n4 := setC3_size w' g (1900) (3) (1)
    have n5 := hk.2.size
    change BkC (setC3 w' g (1900) (3) (1)) g _ _ _ at n1
    have hdef : setC3 w' g (1900) (3) (1) = ((w'.setCell ⟨g, 0, none⟩ (.int .i64 (1900))).setCell ⟨g, 1, none⟩ (.int .i64 (3))).setCell ⟨g, 2, none⟩ (.int .i64 (1)) := rfl
    rw [← hdef]
    generalize setC3 w' g (1900) (3) (1) = W3 at *
    replace hB1 := n1
    replace hB2 := n2
    replace ho := n3
    have lg' : g < W3.heap.size := by omega
    have lk' : k < W3.heap.size := by omega
    clear hdef n1 n2 n3 n4 n5 hk lg lk hr q0 q1 q2 z0 z1 z2
    replace lg := lg'
    replace lk := lk'
    clear lg' lk'
    have hr := Ok.refl ho.1
    go_upto_region 14 with (first
          | (go_at_call 17; ((with_reducible refine (c_from (w := W3) (by assumption) 1900 366 (by unfold I64; omega) (by unfold I64; omega) (z := 0) (m := 0) (r := 0) (e := 4) (by decide +kernel) (by decide +kernel) (by decide +kernel) (by decide +kernel)).mono ?_); rintro e w' ⟨rfl, hk⟩; obtain ⟨q0, q1, q2⟩ := (BkC.below hB2 lk hk.2).three; have z0 := (BkC.below hB2 lk hk.2).frozen 0; have z1 := (BkC.below hB2 lk hk.2).frozen 1; have z2 := (BkC.below hB2 lk hk.2).frozen 2)))
    have n1 := (hB2.below lk hk.2).store (0) (0) (0)
    have n2 := bkc_far (hB1.below lg hk.2) (by omega) (0) (0) (0) (g := k)
    have n3 := ok_set3 hs (ho.2.trans (hk.2.mono ho.2.size)) hkW (0) (0) (0)
    have n4 := setC3_size w' k (0) (0) (0)
    have n5 := hk.2.size
    change BkC (setC3 w' k (0) (0) (0)) k _ _ _ at n1
    have hdef : setC3 w' k (0) (0) (0) = ((w'.setCell ⟨k, 0, none⟩ (.int .i64 (0))).setCell ⟨k, 1, none⟩ (.int .i64 (0))).setCell ⟨k, 2, none⟩ (.int .i64 (0)) := rfl
    rw [← hdef]
    generalize setC3 w' k (0) (0) (0) = W4 at *
    replace hB2 := n1
    replace hB1 := n2
    replace ho := n3
    have lg' : g < W4.heap.size := by omega
    have lk' : k < W4.heap.size := by omega
    clear hdef n1 n2 n3 n4 n5 hk lg lk hr q0 q1 q2 z0 z1 z2
    replace lg := lg'
    replace lk := lk'
    clear lg' lk'
    have hr := Ok.refl ho.1
    obtain ⟨f0, f1, f2⟩ := hB1.three
    obtain ⟨f3, f4, f5⟩ := hB2.three
    go_cut [123] (fun sb wx => sb = .bool false ∧ Below W4.heap.size W4 wx)
    case first =>
      go_region_held3 (fun w' => w'.cell? ⟨g, 0, none⟩ = some (.int .i64 (1900)) ∧ w'.cell? ⟨g, 1, none⟩ = some (.int .i64 (3)) ∧ w'.cell? ⟨g, 2, none⟩ = some (.int .i64 (1)) ∧ w'.cell? ⟨k, 0, none⟩ = some (.int .i64 (0)) ∧ w'.cell? ⟨k, 1, none⟩ = some (.int .i64 (0)) ∧ w'.cell? ⟨k, 2, none⟩ = some (.int .i64 (0))) (go_keep)
        (first
          | (go_at_call 23; ((with_reducible refine (c_civil (w := W4) (hr.step (by go_grown)) _ _ _).mono ?_); rintro e w' ⟨rfl, hk⟩; have hX := hk.2; have k0 := (hk.2.cell (p := ⟨g, 0, none⟩) lg).trans f0; have k1 := (hk.2.cell (p := ⟨g, 1, none⟩) lg).trans f1; have k2 := (hk.2.cell (p := ⟨g, 2, none⟩) lg).trans f2; have k3 := (hk.2.cell (p := ⟨k, 0, none⟩) lk).trans f3; have k4 := (hk.2.cell (p := ⟨k, 1, none⟩) lk).trans f4; have k5 := (hk.2.cell (p := ⟨k, 2, none⟩) lk).trans f5))
          | (go_at_call 19; ((with_reducible refine (c_gok (w := W4) (hr.step (by go_grown)) (by rfl) (by rfl) (by rfl)).mono ?_); rintro e w' ⟨rfl, hk⟩; have hX := hk.2; have k0 := (hk.2.cell (p := ⟨g, 0, none⟩) lg).trans f0; have k1 := (hk.2.cell (p := ⟨g, 1, none⟩) lg).trans f1; have k2 := (hk.2.cell (p := ⟨g, 2, none⟩) lg).trans f2; have k3 := (hk.2.cell (p := ⟨k, 0, none⟩) lk).trans f3; have k4 := (hk.2.cell (p := ⟨k, 1, none⟩) lk).trans f4; have k5 := (hk.2.cell (p := ⟨k, 2, none⟩) lk).trans f5))
          | (go_at_call 19; ((with_reducible refine (c_gbad (w := W4) (hr.step (by go_grown)) (by decide) (by rfl)).mono ?_); rintro e w' ⟨rfl, hk⟩; have hX := hk.2; have k0 := (hk.2.cell (p := ⟨g, 0, none⟩) lg).trans f0; have k1 := (hk.2.cell (p := ⟨g, 1, none⟩) lg).trans f1; have k2 := (hk.2.cell (p := ⟨g, 2, none⟩) lg).trans f2; have k3 := (hk.2.cell (p := ⟨k, 0, none⟩) lk).trans f3; have k4 := (hk.2.cell (p := ⟨k, 1, none⟩) lk).trans f4; have k5 := (hk.2.cell (p := ⟨k, 2, none⟩) lk).trans f5)))
      all_goals
        go_wp2_with fail
        go_meet
        exact ⟨rfl, hX⟩
    case rest =>
      obtain ⟨rfl, hX⟩ := hcut
      replace hB1 := hB1.below lg hX
      replace hB2 := hB2.below lk hX
      replace ho := ho.step hX
      replace lg := Nat.lt_of_lt_of_le lg hX.size
      replace lk := Nat.lt_of_lt_of_le lk hX.size
      clear hr f0 f1 f2 f3 f4 f5 hX
      have hr := Ok.refl ho.1
      go_upto_region 18 with (first
            | (go_at_call 23; refine (c_civil (w := wc) (by assumption) _ _ _).mono ?_; rintro e w' ⟨rfl, hk⟩)
            | (go_at_call 27; ((with_reducible refine (c_text (w := wc) (by assumption) (5) 6 7 (by unfold I64; omega) (by unfold I64; omega) (by unfold I64; omega) txA (e := 0) (by decide +kernel)).mono ?_); rintro e w' ⟨rfl, hk⟩))
            | (go_at_call 27; ((with_reducible refine (c_text (w := wc) (by assumption) (-12345) 11 30 (by unfold I64; omega) (by unfold I64; omega) (by unfold I64; omega) txB (e := 0) (by decide +kernel)).mono ?_); rintro e w' ⟨rfl, hk⟩)))
      go_upto_region 19 with (first
            | (go_at_call 28; ((with_reducible refine (c_parse (w := wc) (by assumption) ⟨#[48, 48, 48, 53, 45, 48, 54, 45, 48, 55]⟩ (by decide) (y := 5) (m := 6) (d := 7) (e := 0) (by decide +kernel) (by decide +kernel) (by decide +kernel) (by decide +kernel)).mono ?_); rintro e w' ⟨rfl, hk⟩; obtain ⟨q0, q1, q2⟩ := (BkC.below hB1 lg hk.2).three; have z0 := (BkC.below hB1 lg hk.2).frozen 0; have z1 := (BkC.below hB1 lg hk.2).frozen 1; have z2 := (BkC.below hB1 lg hk.2).frozen 2)))
      have n1 := (hB1.below lg hk.2).store (5) (6) (7)
      have n2 := bkc_far (hB2.below lk hk.2) (by omega) (5) (6) (7) (g := g)
      have n3 := ok_set3 hs (ho.2.trans (hk.2.mono ho.2.size)) hgW (5) (6) (7)
      have n4 := setC3_size w' g (5) (6) (7)
      have n5 := hk.2.size
      change BkC (setC3 w' g (5) (6) (7)) g _ _ _ at n1
      have hdef : setC3 w' g (5) (6) (7) = ((w'.setCell ⟨g, 0, none⟩ (.int .i64 (5))).setCell ⟨g, 1, none⟩ (.int .i64 (6))).setCell ⟨g, 2, none⟩ (.int .i64 (7)) := rfl
      rw [← hdef]
      generalize setC3 w' g (5) (6) (7) = W5 at *
      replace hB1 := n1
      replace hB2 := n2
      replace ho := n3
      have lg' : g < W5.heap.size := by omega
      have lk' : k < W5.heap.size := by omega
      clear hdef n1 n2 n3 n4 n5 hk lg lk hr q0 q1 q2 z0 z1 z2
      replace lg := lg'
      replace lk := lk'
      clear lg' lk'
      have hr := Ok.refl ho.1
      obtain ⟨f0, f1, f2⟩ := hB1.three
      obtain ⟨f3, f4, f5⟩ := hB2.three
      go_cut [156] (fun sb wx => sb = .bool false ∧ Below W5.heap.size W5 wx)
      case first =>
        go_region_held3 (fun w' => w'.cell? ⟨g, 0, none⟩ = some (.int .i64 (5)) ∧ w'.cell? ⟨g, 1, none⟩ = some (.int .i64 (6)) ∧ w'.cell? ⟨g, 2, none⟩ = some (.int .i64 (7)) ∧ w'.cell? ⟨k, 0, none⟩ = some (.int .i64 (0)) ∧ w'.cell? ⟨k, 1, none⟩ = some (.int .i64 (0)) ∧ w'.cell? ⟨k, 2, none⟩ = some (.int .i64 (0))) (go_keep)
          (first
            | (go_at_call 23; ((with_reducible refine (c_civil (w := W5) (hr.step (by go_grown)) _ _ _).mono ?_); rintro e w' ⟨rfl, hk⟩; have hX := hk.2; have k0 := (hk.2.cell (p := ⟨g, 0, none⟩) lg).trans f0; have k1 := (hk.2.cell (p := ⟨g, 1, none⟩) lg).trans f1; have k2 := (hk.2.cell (p := ⟨g, 2, none⟩) lg).trans f2; have k3 := (hk.2.cell (p := ⟨k, 0, none⟩) lk).trans f3; have k4 := (hk.2.cell (p := ⟨k, 1, none⟩) lk).trans f4; have k5 := (hk.2.cell (p := ⟨k, 2, none⟩) lk).trans f5))
            | (go_at_call 19; ((with_reducible refine (c_gok (w := W5) (hr.step (by go_grown)) (by rfl) (by rfl) (by rfl)).mono ?_); rintro e w' ⟨rfl, hk⟩; have hX := hk.2; have k0 := (hk.2.cell (p := ⟨g, 0, none⟩) lg).trans f0; have k1 := (hk.2.cell (p := ⟨g, 1, none⟩) lg).trans f1; have k2 := (hk.2.cell (p := ⟨g, 2, none⟩) lg).trans f2; have k3 := (hk.2.cell (p := ⟨k, 0, none⟩) lk).trans f3; have k4 := (hk.2.cell (p := ⟨k, 1, none⟩) lk).trans f4; have k5 := (hk.2.cell (p := ⟨k, 2, none⟩) lk).trans f5)))
        all_goals
          go_wp2_with fail
          go_meet
          exact ⟨rfl, hX⟩
      case rest =>
        obtain ⟨rfl, hX⟩ := hcut
        replace hB1 := hB1.below lg hX
        replace hB2 := hB2.below lk hX
        replace ho := ho.step hX
        replace lg := Nat.lt_of_lt_of_le lg hX.size
        replace lk := Nat.lt_of_lt_of_le lk hX.size
        clear hr f0 f1 f2 f3 f4 f5 hX
        have hr := Ok.refl ho.1
        go_wp2_with fail
        obtain ⟨hS, hE, hbN⟩ := rows_new wc _ rfl
        generalize (wc.alloc (Obj.cells #[Value.string ⟨#[53, 45, 48, 54, 45, 48, 55]⟩, Value.string ⟨#[45, 48, 48, 48, 48, 45, 48, 49, 45, 48, 49]⟩, Value.string ⟨#[50, 48, 48, 49, 45, 48, 50, 45, 50, 57]⟩, Value.string ⟨#[50, 48, 48, 49, 45, 50, 45, 48, 51]⟩] 9)).alloc (Obj.cells #[Value.int IntKind.i64 5, Value.int IntKind.i64 5, Value.int IntKind.i64 8, Value.int IntKind.i64 5] 24) = W6 at *
        have hB0 := hB1.below lg hbN
        have ho6 := ho.step hbN
        generalize wc.heap.size = p at *
        clear hB1 hB2 ho hr lk hbN
        go_loopw [2, 16] (fun ev iv wr => ∃ (i : Nat) (a b c e : Int), i ≤ 4 ∧ iv = .int .i64 i ∧ ev = .int .i64 e ∧ BkC wr g a b c ∧ SRow p wr ∧ ERow (p + 1) wr ∧ Ok W wr) (fun _ iv _ => 4 - (intOf iv).toNat)
        case atStart => exact ⟨0, 5, 6, 7, 0, by omega, rfl, rfl, hB0, hS, hE, ho6⟩
        case round =>
          clear hS hE hB0 ho6
          obtain ⟨i, a, b, c, e, hi4, rfl, rfl, hB, hS, hE, ho⟩ := hrel
          by_cases hi2 : i < 4
          · have hi1 : (i : Int) < 4 := by omega
            have hi0 : (0 : Int) ≤ (i : Int) := by omega
            obtain ⟨x1, x2, x3, x4⟩ := ex_is i hi2
            have c0 := hS.2 i hi2
            have cE0 := hE.2 i hi2
            have lp := hE.1
            have hr := Ok.refl ho.1
            have lg : g < wr.heap.size := by have := hS.1; omega
            have hz : (st i).size ≤ pMax := Nat.le_trans x4 (by decide)
            have KP : Hid (Calls Tryz.prog 28 #[.string (st i)] wr fun x w' => x = .returned (.tuple #[C3 0 0 0, .int .i64 (er i)]) ∧ Ok wr w') := c_parse hr (st i) hz (x2 _) (x2 _) (x2 _) x1
            have HN : Hid (¬ er i = 0) := x3
            have HE := Lib.hid hE
            have HS := Lib.hid hS
            clear x1 x2 x3 x4 hE hS hz
            generalize st i = s at *
            generalize er i = ev at *
            go_upto_region 26 with (go_at_call 28; refine KP.out.mono ?_; rintro e w' ⟨rfl, hk⟩; obtain ⟨q0, q1, q2⟩ := (BkC.below hB lg hk.2).three; have z0 := (BkC.below hB lg hk.2).frozen 0; have z1 := (BkC.below hB lg hk.2).frozen 1; have z2 := (BkC.below hB lg hk.2).frozen 2)
            have n1 := (hB.below lg hk.2).store 0 0 0
            have n3 := ok_set3 hs (ho.2.trans (hk.2.mono ho.2.size)) hgW 0 0 0
            have n4 := setC3_size w' g 0 0 0
            have n5 := hk.2.size
            have n6 := (HS.out.below hk.2).far (g := g) (by omega) 0 0 0
            have n7 := (HE.out.below hk.2).far (g := g) (by omega) 0 0 0
            have f3 := (cell_far w' g (p + 1) i 0 0 0 (by omega)).trans ((hk.2.cell (p := ⟨p + 1, i, none⟩) lp).trans cE0)
            change BkC (setC3 w' g 0 0 0) g _ _ _ at n1
            have hdef : setC3 w' g 0 0 0 = ((w'.setCell ⟨g, 0, none⟩ (.int .i64 0)).setCell ⟨g, 1, none⟩ (.int .i64 0)).setCell ⟨g, 2, none⟩ (.int .i64 0) := rfl
            rw [← hdef]
            generalize setC3 w' g 0 0 0 = W7 at *
            clear hdef hk hr lg hB HS HE ho c0 cE0 lp q0 q1 q2 z0 z1 z2 KP n4 n5
            have lp := n7.1
            have lg : g < W7.heap.size := by omega
            have hr := Ok.refl n3.1
            obtain ⟨f0, f1, f2⟩ := n1.three
            have N1 := Lib.hid n1
            have N3 := Lib.hid n3
            have N6 := Lib.hid n6
            have N7 := Lib.hid n7
            clear n1 n3 n6 n7
            go_region_held3 (fun w' => w'.cell? ⟨g, 0, none⟩ = some (.int .i64 0) ∧ w'.cell? ⟨g, 1, none⟩ = some (.int .i64 0) ∧ w'.cell? ⟨g, 2, none⟩ = some (.int .i64 0) ∧ w'.cell? ⟨p + 1, i, none⟩ = some (.int .i64 ev)) (go_keep)
              (first
                  | (go_at_call 23; ((with_reducible refine (c_civil (w := W7) (hr.step (by go_grown)) _ _ _).mono ?_); rintro e w' ⟨rfl, hk⟩; have hX := hk.2; have k0 := (hk.2.cell (p := ⟨g, 0, none⟩) lg).trans f0; have k1 := (hk.2.cell (p := ⟨g, 1, none⟩) lg).trans f1; have k2 := (hk.2.cell (p := ⟨g, 2, none⟩) lg).trans f2; have k3 := (hk.2.cell (p := ⟨p + 1, i, none⟩) lp).trans f3))
                  | (go_at_call 19; ((with_reducible refine (c_gbad (w := W7) (hr.step (by go_grown)) HN.out (by rfl)).mono ?_); rintro e w' ⟨rfl, hk⟩; have hX := hk.2; have k0 := (hk.2.cell (p := ⟨g, 0, none⟩) lg).trans f0; have k1 := (hk.2.cell (p := ⟨g, 1, none⟩) lg).trans f1; have k2 := (hk.2.cell (p := ⟨g, 2, none⟩) lg).trans f2; have k3 := (hk.2.cell (p := ⟨p + 1, i, none⟩) lp).trans f3)))
            all_goals
              go_wp2_with fail
              go_roundw
              case rel =>
                refine ⟨i + 1, 0, 0, 0, ev, by omega, by first | rfl | go_num, rfl, ?_, ?_, ?_, ?_⟩
                · exact N1.out.below lg hX
                · exact N6.out.below hX
                · exact N7.out.below hX
                · exact N3.out.step hX
              case measure => simp [intOf]; omega
            
          · obtain rfl : i = 4 := by omega
            have hi1 : ¬ ((4 : Nat) : Int) < 4 := by omega
            clear hB hS hE hi2 hi4
            go_wp2
            go_ret
            exact ⟨rfl, h0.step ho.2⟩

end Go.Proofs.YtiemlpmhhbmfiaaGreatDoor.civ
/- The law on ordinals of a year. -/
namespace Go.Proofs.YtiemlpmhhbmfiaaGreatDoor.civ
open Go.RowKit

set_option maxHeartbeats 2000000 in
set_option maxRecDepth 100000 in
theorem ordinal_law (y n : Int) (w W : World) (y0 : -9223372036854775808 ≤ y) (y1 : y ≤ 9223372036854775807) (n0 : -9223372036854775808 ≤ n) (n1 : n ≤ 9223372036854775807) (h : Ok w W) :
    Calls Tryz.prog 8 #[.int .i64 y, .int .i64 n] W fun e w' => e = .returned (.bool true) ∧ Ok w w' := by
  have hr := Ok.refl h.1
  have KI : Hid (∀ X, Calls Tryz.prog 31 #[.int .i64 y] X fun x w' => x = .returned (.bool (yr y)) ∧ X = w') := fun X => isR_any y X
  cases hy : yr y
  · have hf := fE_no (n := n) hy
    rw [hy] at KI
    have KF : Hid (Calls Tryz.prog 17 #[.int .i64 y, .int .i64 n] W fun x w' => x = .returned (.tuple #[C3 0 0 0, .int .i64 6]) ∧ Ok W w') := c_from hr y n ⟨y0, y1⟩ ⟨n0, n1⟩ (fV_no (by rw [hf]; decide) _) (fV_no (by rw [hf]; decide) _) (fV_no (by rw [hf]; decide) _) hf
    clear hy hf hr
    go_enter Tryz.func8, Tryz.ntmps8
    go_upto_region 2 with (go_at_call 17; refine KF.out.mono ?_; rintro e w' ⟨rfl, hk⟩)
    have hBg := BkC.new w' (0) (0) (0)
    have hog := hk.step ((Below.refl _ _).alloc (Nat.le_refl _) (.cells #[.int .i64 (0), .int .i64 (0), .int .i64 (0)] 23))
    have lg : w'.heap.size < (w'.alloc (.cells #[.int .i64 (0), .int .i64 (0), .int .i64 (0)] 23)).heap.size := by simp
    have sg := hk.2.size
    generalize (w'.alloc (Obj.cells #[Value.int IntKind.i64 (0), Value.int IntKind.i64 (0), Value.int IntKind.i64 (0)] 23)) = W1 at *
    generalize w'.heap.size = g at *
    have hrg := Ok.refl hog.1
    obtain ⟨f0, f1, f2⟩ := hBg.three
    go_upto_region 3 with (go_at_call 31; refine (KI.out _).mono ?_; rintro e w' ⟨rfl, rfl⟩)
    go_region_held3 (fun w' => w'.cell? ⟨g, 0, none⟩ = some (.int .i64 (0)) ∧ w'.cell? ⟨g, 1, none⟩ = some (.int .i64 (0)) ∧ w'.cell? ⟨g, 2, none⟩ = some (.int .i64 (0))) (go_keep)
      (first
          | (go_at_call 23; ((with_reducible refine (c_civil (w := W1) (hrg.step (by go_grown)) _ _ _).mono ?_); rintro e w' ⟨rfl, hk⟩; have hX := hk.2; have k0 := (hk.2.cell (p := ⟨g, 0, none⟩) lg).trans f0; have k1 := (hk.2.cell (p := ⟨g, 1, none⟩) lg).trans f1; have k2 := (hk.2.cell (p := ⟨g, 2, none⟩) lg).trans f2))
          | (go_at_call 19; ((with_reducible refine (c_gbad (w := W1) (hrg.step (by go_grown)) (by decide) (by rfl)).mono ?_); rintro e w' ⟨rfl, hk⟩; have hX := hk.2; have k0 := (hk.2.cell (p := ⟨g, 0, none⟩) lg).trans f0; have k1 := (hk.2.cell (p := ⟨g, 1, none⟩) lg).trans f1; have k2 := (hk.2.cell (p := ⟨g, 2, none⟩) lg).trans f2))
          | (go_at_call 14; ((with_reducible refine (lives_t W1 _ (hrg.step (by go_grown))).mono ?_); rintro e w' ⟨rfl, hk⟩; have hX := hk.2; have k0 := (hk.2.cell (p := ⟨g, 0, none⟩) lg).trans f0; have k1 := (hk.2.cell (p := ⟨g, 1, none⟩) lg).trans f1; have k2 := (hk.2.cell (p := ⟨g, 2, none⟩) lg).trans f2)))
    all_goals
      go_wp2_with fail
      go_ret
      exact ⟨rfl, h.step (hog.2.trans (hX.mono hog.2.size))⟩
  · rw [hy] at KI
    by_cases hn : 1 ≤ n ∧ n ≤ lenI y
    · have hf := fE_ok hy hn.1 hn.2
      have hyo := ord_in (y := y) hn.1 hn.2
      obtain ⟨D, hD⟩ : ∃ D, stI y + n - 1 = D := ⟨_, rfl⟩
      rw [hD] at hyo
      have hyD : yr (yrOf D) = true := by rw [hyo]; exact hy
      obtain ⟨q1, q2⟩ := civ_of_ok hyD
      rw [hyo] at q1 q2
      obtain ⟨b1, b2⟩ := cDy_bd D
      obtain ⟨b3, b4⟩ := moOf_bd D
      have hb := (yr_iff y).1 hy
      have hl := lenI_bd y
      have hsb := stI_bd y (by omega)
      have KF : Hid (Calls Tryz.prog 17 #[.int .i64 y, .int .i64 n] W fun x w' => x = .returned (.tuple #[C3 y (moOf D : Nat) (cDy D), .int .i64 0]) ∧ Ok W w') := c_from hr y n ⟨y0, y1⟩ ⟨n0, n1⟩ (fV_ok hf _) (by rw [hD]; exact fV_ok hf _) (by rw [hD]; exact fV_ok hf _) hf
      have KL : Hid (∀ X, Calls Tryz.prog 32 #[.int .i64 y] X fun x w' => x = .returned (.int .i64 (lenI y)) ∧ X = w') := fun X => lenR_any y X
      have KS : Hid (∀ X, Calls Tryz.prog 18 #[.int .i64 y] X fun x w' => x = .returned (.int .i64 (stI y)) ∧ X = w') := fun X => stR_any y X (by omega) (by omega)
      have e1 : ¬ n < 1 := by omega
      have e2 : ¬ lenI y < n := by omega
      have HQ : Hid (cE y (moOf D : Nat) (cDy D) = 0 ∧ cday y (moOf D : Nat) (cDy D) = D) := ⟨q1, q2⟩
      have HI : Hid (I64 y ∧ I64 ((moOf D : Nat) : Int) ∧ I64 (cDy D)) := ⟨⟨y0, y1⟩, by unfold I64; omega, by unfold I64; omega⟩
      have HD : Hid (D = stI y + n - 1) := hD.symm
      have hDb : -3652425000000000000 ≤ D ∧ D ≤ 3652425000000000800 := by omega
      clear hy hf hr hyo hyD q1 q2 hD
      generalize cDy D = d at *
      generalize ((moOf D : Nat) : Int) = m at *
      generalize stI y = S at *
      generalize lenI y = L at *
      go_enter Tryz.func8, Tryz.ntmps8
      go_upto_region 2 with (go_at_call 17; refine KF.out.mono ?_; rintro e w' ⟨rfl, hk⟩)
      have hBg := BkC.new w' (y) (m) (d)
      have hog := hk.step ((Below.refl _ _).alloc (Nat.le_refl _) (.cells #[.int .i64 (y), .int .i64 (m), .int .i64 (d)] 23))
      have lg : w'.heap.size < (w'.alloc (.cells #[.int .i64 (y), .int .i64 (m), .int .i64 (d)] 23)).heap.size := by simp
      have sg := hk.2.size
      generalize (w'.alloc (Obj.cells #[Value.int IntKind.i64 (y), Value.int IntKind.i64 (m), Value.int IntKind.i64 (d)] 23)) = W1 at *
      generalize w'.heap.size = g at *
      have hrg := Ok.refl hog.1
      obtain ⟨f0, f1, f2⟩ := hBg.three
      have KD : Hid (Calls Tryz.prog 11 #[C3 y m d] W1 fun x w' => x = .returned (.tuple #[.int .i64 D, .int .i64 0]) ∧ Ok W1 w') := c_day hrg y m d HI.out.1 HI.out.2.1 HI.out.2.2 (by rw [cV_ok HQ.out.1]; exact HQ.out.2) HQ.out.1
      go_upto_region 7 with (first
        | (go_at_call 31; refine (KI.out _).mono ?_; rintro e w' ⟨rfl, rfl⟩)
        | (go_at_call 32; refine (KL.out _).mono ?_; rintro e w' ⟨rfl, rfl⟩)
        | (go_at_call 11; refine KD.out.mono ?_; rintro e w' ⟨rfl, hk⟩))
      have k0 := (hk.2.cell (p := ⟨g, 0, none⟩) lg).trans f0
      have t1 : (y == y) = true := by simp
      clear HI HQ KD KF
      go_wp2_with (first
        | (go_at_call 18; refine (KS.out _).mono ?_; rintro e w' ⟨rfl, rfl⟩)
        | (go_at_call 33; ((with_reducible refine (c_num (w := W1) (by assumption) HD.out (by rfl)).mono ?_); rintro e w' ⟨rfl, hk2⟩))
        | (go_at_call 14; refine (lives_t W1 _ (by assumption)).mono ?_; rintro e w' ⟨rfl, hk3⟩))
      go_ret
      exact ⟨rfl, h.step (hog.2.trans (hk3.2.mono hog.2.size))⟩

    · have hf := fE_out hy hn
      have KL : Hid (∀ X, Calls Tryz.prog 32 #[.int .i64 y] X fun x w' => x = .returned (.int .i64 (lenI y)) ∧ X = w') := fun X => lenR_any y X
      have KF : Hid (Calls Tryz.prog 17 #[.int .i64 y, .int .i64 n] W fun x w' => x = .returned (.tuple #[C3 0 0 0, .int .i64 4]) ∧ Ok W w') := c_from hr y n ⟨y0, y1⟩ ⟨n0, n1⟩ (fV_no (by rw [hf]; decide) _) (fV_no (by rw [hf]; decide) _) (fV_no (by rw [hf]; decide) _) hf
      have hl := lenI_bd y
      clear hy hf hr
      generalize lenI y = L at *
      by_cases e1 : n < 1
      · clear hn hl
        go_enter Tryz.func8, Tryz.ntmps8
        go_upto_region 2 with (go_at_call 17; refine KF.out.mono ?_; rintro e w' ⟨rfl, hk⟩)
        have hBg := BkC.new w' (0) (0) (0)
        have hog := hk.step ((Below.refl _ _).alloc (Nat.le_refl _) (.cells #[.int .i64 (0), .int .i64 (0), .int .i64 (0)] 23))
        have lg : w'.heap.size < (w'.alloc (.cells #[.int .i64 (0), .int .i64 (0), .int .i64 (0)] 23)).heap.size := by simp
        have sg := hk.2.size
        generalize (w'.alloc (Obj.cells #[Value.int IntKind.i64 (0), Value.int IntKind.i64 (0), Value.int IntKind.i64 (0)] 23)) = W1 at *
        generalize w'.heap.size = g at *
        have hrg := Ok.refl hog.1
        obtain ⟨f0, f1, f2⟩ := hBg.three
        go_upto_region 5 with (first | (go_at_call 31; refine (KI.out _).mono ?_; rintro e w' ⟨rfl, rfl⟩) | (go_at_call 32; refine (KL.out _).mono ?_; rintro e w' ⟨rfl, rfl⟩))
        go_region_held3 (fun w' => w'.cell? ⟨g, 0, none⟩ = some (.int .i64 (0)) ∧ w'.cell? ⟨g, 1, none⟩ = some (.int .i64 (0)) ∧ w'.cell? ⟨g, 2, none⟩ = some (.int .i64 (0))) (go_keep)
          (first
              | (go_at_call 23; ((with_reducible refine (c_civil (w := W1) (hrg.step (by go_grown)) _ _ _).mono ?_); rintro e w' ⟨rfl, hk⟩; have hX := hk.2; have k0 := (hk.2.cell (p := ⟨g, 0, none⟩) lg).trans f0; have k1 := (hk.2.cell (p := ⟨g, 1, none⟩) lg).trans f1; have k2 := (hk.2.cell (p := ⟨g, 2, none⟩) lg).trans f2))
              | (go_at_call 19; ((with_reducible refine (c_gbad (w := W1) (hrg.step (by go_grown)) (by decide) (by rfl)).mono ?_); rintro e w' ⟨rfl, hk⟩; have hX := hk.2; have k0 := (hk.2.cell (p := ⟨g, 0, none⟩) lg).trans f0; have k1 := (hk.2.cell (p := ⟨g, 1, none⟩) lg).trans f1; have k2 := (hk.2.cell (p := ⟨g, 2, none⟩) lg).trans f2))
              | (go_at_call 14; ((with_reducible refine (lives_t W1 _ (hrg.step (by go_grown))).mono ?_); rintro e w' ⟨rfl, hk⟩; have hX := hk.2; have k0 := (hk.2.cell (p := ⟨g, 0, none⟩) lg).trans f0; have k1 := (hk.2.cell (p := ⟨g, 1, none⟩) lg).trans f1; have k2 := (hk.2.cell (p := ⟨g, 2, none⟩) lg).trans f2)))
        all_goals
          go_wp2_with fail
          go_ret
          exact ⟨rfl, h.step (hog.2.trans (hX.mono hog.2.size))⟩
        
      · have e2 : L < n := by omega
        clear hn hl
        go_enter Tryz.func8, Tryz.ntmps8
        go_upto_region 2 with (go_at_call 17; refine KF.out.mono ?_; rintro e w' ⟨rfl, hk⟩)
        have hBg := BkC.new w' (0) (0) (0)
        have hog := hk.step ((Below.refl _ _).alloc (Nat.le_refl _) (.cells #[.int .i64 (0), .int .i64 (0), .int .i64 (0)] 23))
        have lg : w'.heap.size < (w'.alloc (.cells #[.int .i64 (0), .int .i64 (0), .int .i64 (0)] 23)).heap.size := by simp
        have sg := hk.2.size
        generalize (w'.alloc (Obj.cells #[Value.int IntKind.i64 (0), Value.int IntKind.i64 (0), Value.int IntKind.i64 (0)] 23)) = W1 at *
        generalize w'.heap.size = g at *
        have hrg := Ok.refl hog.1
        obtain ⟨f0, f1, f2⟩ := hBg.three
        go_upto_region 5 with (first | (go_at_call 31; refine (KI.out _).mono ?_; rintro e w' ⟨rfl, rfl⟩) | (go_at_call 32; refine (KL.out _).mono ?_; rintro e w' ⟨rfl, rfl⟩))
        go_region_held3 (fun w' => w'.cell? ⟨g, 0, none⟩ = some (.int .i64 (0)) ∧ w'.cell? ⟨g, 1, none⟩ = some (.int .i64 (0)) ∧ w'.cell? ⟨g, 2, none⟩ = some (.int .i64 (0))) (go_keep)
          (first
              | (go_at_call 23; ((with_reducible refine (c_civil (w := W1) (hrg.step (by go_grown)) _ _ _).mono ?_); rintro e w' ⟨rfl, hk⟩; have hX := hk.2; have k0 := (hk.2.cell (p := ⟨g, 0, none⟩) lg).trans f0; have k1 := (hk.2.cell (p := ⟨g, 1, none⟩) lg).trans f1; have k2 := (hk.2.cell (p := ⟨g, 2, none⟩) lg).trans f2))
              | (go_at_call 19; ((with_reducible refine (c_gbad (w := W1) (hrg.step (by go_grown)) (by decide) (by rfl)).mono ?_); rintro e w' ⟨rfl, hk⟩; have hX := hk.2; have k0 := (hk.2.cell (p := ⟨g, 0, none⟩) lg).trans f0; have k1 := (hk.2.cell (p := ⟨g, 1, none⟩) lg).trans f1; have k2 := (hk.2.cell (p := ⟨g, 2, none⟩) lg).trans f2))
              | (go_at_call 14; ((with_reducible refine (lives_t W1 _ (hrg.step (by go_grown))).mono ?_); rintro e w' ⟨rfl, hk⟩; have hX := hk.2; have k0 := (hk.2.cell (p := ⟨g, 0, none⟩) lg).trans f0; have k1 := (hk.2.cell (p := ⟨g, 1, none⟩) lg).trans f1; have k2 := (hk.2.cell (p := ⟨g, 2, none⟩) lg).trans f2)))
        all_goals
          go_wp2_with fail
          go_ret
          exact ⟨rfl, h.step (hog.2.trans (hX.mono hog.2.size))⟩
        
end Go.Proofs.YtiemlpmhhbmfiaaGreatDoor.civ
/- The stage's theorem: civil days and their days. -/
namespace Go.Proofs.YtiemlpmhhbmfiaaGreatDoor.civ
open Go.RowKit

set_option maxHeartbeats 4000000 in
set_option maxRecDepth 100000 in
theorem day_law (y m d : Int) (w W : World) (hy : I64 y) (hm : I64 m) (hd : I64 d) (h : Ok w W) :
    Calls Tryz.prog 3 #[C3 y m d] W fun e w' => e = .returned (.bool true) ∧ Ok w w' := by
  obtain ⟨⟨f0, f1, f2⟩, lg, hb1⟩ := tri_new W y m d 23 _ rfl
  obtain ⟨W1, hW1⟩ : ∃ W1, W1 = W.alloc (.cells #[.int .i64 y, .int .i64 m, .int .i64 d] 23) := ⟨_, rfl⟩
  have hBg := BkC.new W y m d
  rw [← hW1] at f0 f1 f2 lg hb1 hBg
  have ho1 := h.step hb1
  have hr := Ok.refl ho1.1
  have KC : Hid (∀ X, Ok W1 X → Calls Tryz.prog 10 #[C3 y m d] X fun x w' => x = .returned (.int .i64 (cE y m d)) ∧ Ok W1 w') := fun X hX => c_below hX (cchkR_any y m d X)
  have KP : Hid (∀ X, Ok W1 X → Calls Tryz.prog 13 #[C3 y m d] X fun x w' => x = .returned (.int .i64 (cE y m d)) ∧ Ok W1 w') := fun X hX => c_check hX y m d hy hm hd rfl
  have KD : Hid (∀ X, Ok W1 X → Calls Tryz.prog 11 #[C3 y m d] X fun x w' => x = .returned (.tuple #[.int .i64 (cV y m d (cday y m d)), .int .i64 (cE y m d)]) ∧ Ok W1 w') := fun X hX => c_day hX y m d hy hm hd rfl rfl
  have KO : Hid (∀ X, Ok W1 X → Calls Tryz.prog 12 #[C3 y m d] X fun x w' => x = .returned (.tuple #[.int .i64 (cV y m d (cday y m d - stI y + 1)), .int .i64 (cE y m d)]) ∧ Ok W1 w') := fun X hX => c_ord hX y m d hy hm hd rfl rfl
  obtain ⟨g, hg⟩ : ∃ g, W.heap.size = g := ⟨_, rfl⟩
  rw [hg] at f0 f1 f2 lg hBg
  by_cases hE : cE y m d = 0
  · obtain ⟨q1, q2, q3, q4, q5, q6, q7, q8⟩ := civ_back hE
    obtain ⟨o1, o2, o3⟩ := ord_bd hE
    have hyb := (yr_iff y).1 q4
    have hlb := lenI_bd y
    have hsb := stI_bd y (by omega)
    have hcb : -3652425000000000000 ≤ cday y m d ∧ cday y m d ≤ 3652425000000000800 := by omega
    rw [cV_ok hE, hE] at KD KO
    rw [hE] at KC KP
    have KR : Hid (∀ X, Ok W1 X → Calls Tryz.prog 15 #[C3 y m d] X fun x w' => x = .returned (.int .i64 (cday y m d)) ∧ Ok W1 w') := fun X hX => c_below hX (cdayR_any y m d X hyb ⟨q5, q6⟩ ⟨q7, q8⟩)
    have KF : Hid (∀ X, Ok W1 X → Calls Tryz.prog 16 #[.int .i64 (cday y m d)] X fun x w' => x = .returned (.tuple #[C3 y m d, .int .i64 0]) ∧ Ok W1 w') := fun X hX => c_of hX (cday y m d) (by unfold I64; omega) (by rw [oV_ok (by rw [q1]; exact q4)]; exact q1) (by rw [oV_ok (by rw [q1]; exact q4)]; exact q2) (by rw [oV_ok (by rw [q1]; exact q4)]; exact q3) (oE_ok (by rw [q1]; exact q4))
    have hfE := fE_ok q4 o1 o2
    have KG : Hid (∀ B X, Ok B X → Calls Tryz.prog 17 #[.int .i64 y, .int .i64 (cday y m d - stI y + 1)] X fun x w' => x = .returned (.tuple #[C3 y m d, .int .i64 0]) ∧ Ok B w') := fun B X hX => c_from hX y _ hy (by unfold I64; omega) (fV_ok hfE _) (by rw [o3, fV_ok hfE]; exact q2) (by rw [o3, fV_ok hfE]; exact q3) hfE
    have KS : Hid (∀ X, Calls Tryz.prog 18 #[.int .i64 y] X fun x w' => x = .returned (.int .i64 (stI y)) ∧ X = w') := fun X => stR_any y X (by omega) (by omega)
    clear hE q1 q2 q3 q4 q5 q6 q7 q8 o3 hfE hyb
    obtain ⟨N, hN⟩ : ∃ N, cday y m d - stI y + 1 = N := ⟨_, rfl⟩
    have tN : (N == N) = true := by simp
    have tD : (cday y m d == cday y m d) = true := by simp
    have HN := Lib.hid hN
    rw [hN] at KO KG o1 o2
    clear hN
    generalize cday y m d = D at *
    generalize stI y = ST at *
    generalize lenI y = L at *
    go_enter Tryz.func3, Tryz.ntmps3
    go_upto_region 1 with fail
    rw [← hW1]
    clear hW1
    go_upto_region 9 with (first
          | (go_at_call 10; ((with_reducible refine (KC.out _ (by assumption)).mono ?_); rintro e w' ⟨rfl, hk⟩; have hX := hk.2; have k0 := (hk.2.cell (p := ⟨g, 0, none⟩) lg).trans f0; have k1 := (hk.2.cell (p := ⟨g, 1, none⟩) lg).trans f1; have k2 := (hk.2.cell (p := ⟨g, 2, none⟩) lg).trans f2))
          | (go_at_call 11; ((with_reducible refine (KD.out _ (by assumption)).mono ?_); rintro e w' ⟨rfl, hk⟩; have hX := hk.2; have k0 := (hk.2.cell (p := ⟨g, 0, none⟩) lg).trans f0; have k1 := (hk.2.cell (p := ⟨g, 1, none⟩) lg).trans f1; have k2 := (hk.2.cell (p := ⟨g, 2, none⟩) lg).trans f2))
          | (go_at_call 12; ((with_reducible refine (KO.out _ (by assumption)).mono ?_); rintro e w' ⟨rfl, hk⟩; have hX := hk.2; have k0 := (hk.2.cell (p := ⟨g, 0, none⟩) lg).trans f0; have k1 := (hk.2.cell (p := ⟨g, 1, none⟩) lg).trans f1; have k2 := (hk.2.cell (p := ⟨g, 2, none⟩) lg).trans f2))
          | (go_at_call 13; ((with_reducible refine (KP.out _ (by assumption)).mono ?_); rintro e w' ⟨rfl, hk⟩; have hX := hk.2; have k0 := (hk.2.cell (p := ⟨g, 0, none⟩) lg).trans f0; have k1 := (hk.2.cell (p := ⟨g, 1, none⟩) lg).trans f1; have k2 := (hk.2.cell (p := ⟨g, 2, none⟩) lg).trans f2))
          | (go_at_call 15; ((with_reducible refine (KR.out _ (by assumption)).mono ?_); rintro e w' ⟨rfl, hk⟩; have hX := hk.2; have k0 := (hk.2.cell (p := ⟨g, 0, none⟩) lg).trans f0; have k1 := (hk.2.cell (p := ⟨g, 1, none⟩) lg).trans f1; have k2 := (hk.2.cell (p := ⟨g, 2, none⟩) lg).trans f2)))
    go_upto_region 10 with (first
          | (go_at_call 16; ((with_reducible refine (KF.out _ (by assumption)).mono ?_); rintro e w' ⟨rfl, hk⟩; have hX := hk.2; have k0 := (hk.2.cell (p := ⟨g, 0, none⟩) lg).trans f0; have k1 := (hk.2.cell (p := ⟨g, 1, none⟩) lg).trans f1; have k2 := (hk.2.cell (p := ⟨g, 2, none⟩) lg).trans f2)))
    have hBk := BkC.new w' (y) (m) (d)
    have hok := hk.step ((Below.refl _ _).alloc (Nat.le_refl _) (.cells #[.int .i64 (y), .int .i64 (m), .int .i64 (d)] 23))
    have lk : w'.heap.size < (w'.alloc (.cells #[.int .i64 (y), .int .i64 (m), .int .i64 (d)] 23)).heap.size := by simp
    have sk := hk.2.size
    generalize (w'.alloc (Obj.cells #[Value.int IntKind.i64 (y), Value.int IntKind.i64 (m), Value.int IntKind.i64 (d)] 23)) = W2 at *
    generalize w'.heap.size = k at *
    have hrk := Ok.refl hok.1
    have hBg2 := hBg.below lg hok.2
    have lg2 : g < W2.heap.size := Nat.lt_of_lt_of_le lg hok.2.size
    obtain ⟨g0, g1, g2⟩ := hBg2.three
    obtain ⟨g3, g4, g5⟩ := hBk.three
    go_upto_region 11 with (first
          | (go_at_call 17; ((with_reducible refine (KG.out W2 _ (by assumption)).mono ?_); rintro e w' ⟨rfl, hk⟩)))
    have hBq := BkC.new w' (y) (m) (d)
    have hoq := hk.step ((Below.refl _ _).alloc (Nat.le_refl _) (.cells #[.int .i64 (y), .int .i64 (m), .int .i64 (d)] 23))
    have lq : w'.heap.size < (w'.alloc (.cells #[.int .i64 (y), .int .i64 (m), .int .i64 (d)] 23)).heap.size := by simp
    have sq := hk.2.size
    generalize (w'.alloc (Obj.cells #[Value.int IntKind.i64 (y), Value.int IntKind.i64 (m), Value.int IntKind.i64 (d)] 23)) = W3 at *
    generalize w'.heap.size = q at *
    have hrq := Ok.refl hoq.1
    have hBg3 := hBg2.below lg2 hoq.2
    have hBk3 := hBk.below lk hoq.2
    have lg3 : g < W3.heap.size := Nat.lt_of_lt_of_le lg2 hoq.2.size
    have lk3 : k < W3.heap.size := Nat.lt_of_lt_of_le lk hoq.2.size
    obtain ⟨e0, e1, e2⟩ := hBg3.three
    obtain ⟨e3, e4, e5⟩ := hBk3.three
    obtain ⟨e6, e7, e8⟩ := hBq.three
    have tN2 : (N == D - ST + 1) = true := by rw [beq_iff_eq]; exact HN.out.symm
    go_wp2_with (first
      | (go_at_call 18; refine (KS.out _).mono ?_; rintro e w' ⟨rfl, rfl⟩)
      | (go_at_call 19; ((with_reducible refine (c_gok (w := W3) (by assumption) (by rfl) (by rfl) (by rfl)).mono ?_); rintro e w' ⟨rfl, hk⟩; have hX := hk.2; have k0 := (hk.2.cell (p := ⟨g, 0, none⟩) lg3).trans e0; have k1 := (hk.2.cell (p := ⟨g, 1, none⟩) lg3).trans e1; have k2 := (hk.2.cell (p := ⟨g, 2, none⟩) lg3).trans e2; have k3 := (hk.2.cell (p := ⟨k, 0, none⟩) lk3).trans e3; have k4 := (hk.2.cell (p := ⟨k, 1, none⟩) lk3).trans e4; have k5 := (hk.2.cell (p := ⟨k, 2, none⟩) lk3).trans e5; have k6 := (hk.2.cell (p := ⟨q, 0, none⟩) lq).trans e6; have k7 := (hk.2.cell (p := ⟨q, 1, none⟩) lq).trans e7; have k8 := (hk.2.cell (p := ⟨q, 2, none⟩) lq).trans e8))
      | (go_at_call 14; ((with_reducible refine (lives_t W3 _ (by assumption)).mono ?_); rintro e w' ⟨rfl, hk⟩)))
    go_ret
    exact ⟨rfl, h.step ((hb1.trans (hok.2.mono hb1.size)).trans ((hoq.2.trans (hk.2.mono hoq.2.size)).mono (Nat.le_trans hb1.size hok.2.size)))⟩
  · have hz : ∀ v, cV y m d v = 0 := fun v => cV_bad hE v
    have tE : (cE y m d != 0) = true := by rw [bne_iff_ne]; exact hE
    have tS : (cE y m d != cE y m d) = false := by simp
    rw [hz] at KD KO
    clear hE hz
    generalize cE y m d = E at *
    go_enter Tryz.func3, Tryz.ntmps3
    go_upto_region 1 with fail
    rw [← hW1]
    clear hW1
    go_wp2_with (first
          | (go_at_call 10; ((with_reducible refine (KC.out _ (by assumption)).mono ?_); rintro e w' ⟨rfl, hk⟩; have hX := hk.2; have k0 := (hk.2.cell (p := ⟨g, 0, none⟩) lg).trans f0; have k1 := (hk.2.cell (p := ⟨g, 1, none⟩) lg).trans f1; have k2 := (hk.2.cell (p := ⟨g, 2, none⟩) lg).trans f2))
          | (go_at_call 11; ((with_reducible refine (KD.out _ (by assumption)).mono ?_); rintro e w' ⟨rfl, hk⟩; have hX := hk.2; have k0 := (hk.2.cell (p := ⟨g, 0, none⟩) lg).trans f0; have k1 := (hk.2.cell (p := ⟨g, 1, none⟩) lg).trans f1; have k2 := (hk.2.cell (p := ⟨g, 2, none⟩) lg).trans f2))
          | (go_at_call 12; ((with_reducible refine (KO.out _ (by assumption)).mono ?_); rintro e w' ⟨rfl, hk⟩; have hX := hk.2; have k0 := (hk.2.cell (p := ⟨g, 0, none⟩) lg).trans f0; have k1 := (hk.2.cell (p := ⟨g, 1, none⟩) lg).trans f1; have k2 := (hk.2.cell (p := ⟨g, 2, none⟩) lg).trans f2))
          | (go_at_call 13; ((with_reducible refine (KP.out _ (by assumption)).mono ?_); rintro e w' ⟨rfl, hk⟩; have hX := hk.2; have k0 := (hk.2.cell (p := ⟨g, 0, none⟩) lg).trans f0; have k1 := (hk.2.cell (p := ⟨g, 1, none⟩) lg).trans f1; have k2 := (hk.2.cell (p := ⟨g, 2, none⟩) lg).trans f2))
          | (go_at_call 14; ((with_reducible refine (lives_t W1 _ (by assumption)).mono ?_); rintro e w' ⟨rfl, hk⟩; have hX := hk.2; have k0 := (hk.2.cell (p := ⟨g, 0, none⟩) lg).trans f0; have k1 := (hk.2.cell (p := ⟨g, 1, none⟩) lg).trans f1; have k2 := (hk.2.cell (p := ⟨g, 2, none⟩) lg).trans f2)))
    go_ret
    exact ⟨rfl, h.step (hb1.trans (hk.2.mono hb1.size))⟩
end Go.Proofs.YtiemlpmhhbmfiaaGreatDoor.civ
/- The law on the civil day of a day, and on weekdays. -/
namespace Go.Proofs.YtiemlpmhhbmfiaaGreatDoor.civ
open Go.RowKit

set_option maxHeartbeats 4000000 in
set_option maxRecDepth 100000 in
theorem of_law (day other : Int) (w W : World) (a0 : -9223372036854775808 ≤ day) (a1 : day ≤ 9223372036854775807) (b0 : -9223372036854775808 ≤ other) (b1 : other ≤ 9223372036854775807) (h : Ok w W) :
    Calls Tryz.prog 4 #[.int .i64 day, .int .i64 other] W fun e w' => e = .returned (.bool true) ∧ Ok w w' := by
  have hr := Ok.refl h.1
  obtain ⟨w0, w1⟩ := wdI_bd day
  obtain ⟨v0, v1⟩ := wdI_bd (day + 1)
  have KW : Hid (∀ B X, Ok B X → Calls Tryz.prog 20 #[.int .i64 day] X fun x w' => x = .returned (.int .i64 (wdI day)) ∧ Ok B w') := fun B X hX => c_wd hX day ⟨a0, a1⟩ rfl
  have KV : Hid (∀ B X, Ok B X → day < 9223372036854775807 → Calls Tryz.prog 20 #[.int .i64 (day + 1)] X fun x w' => x = .returned (.int .i64 (wdI (day + 1))) ∧ Ok B w') := fun B X hX hl => c_wd hX (day + 1) ⟨by omega, by omega⟩ rfl
  have KR : Hid (∀ X, Calls Tryz.prog 21 #[.int .i64 day] X fun x w' => x = .returned (.int .i64 (wdI day)) ∧ X = w') := fun X => wdR_any day X
  have KY : Hid (∀ X, Calls Tryz.prog 22 #[.int .i64 day] X fun x w' => x = .returned (.tuple #[.int .i64 (yrOf day), .bool (yr (yrOf day))]) ∧ X = w') := fun X => ofR_any day X a0 a1
  have hnx := wdI_next day
  have tw : (wdI day != wdI day) = false := by simp
  have tv : (wdI (day + 1) != (wdI day + 1) % 7) = false := by rw [hnx]; simp
  clear hnx
  generalize wdI (day + 1) = v at *
  generalize wdI day = u at *
  cases hy : yr (yrOf day)
  · have hz := oV_no hy
    have KF : Hid (∀ B X, Ok B X → Calls Tryz.prog 16 #[.int .i64 day] X fun x w' => x = .returned (.tuple #[C3 0 0 0, .int .i64 6]) ∧ Ok B w') := fun B X hX => c_of hX day ⟨a0, a1⟩ (hz _) (hz _) (hz _) (oE_no hy)
    rw [hy] at KY
    clear hy hz
    generalize yrOf day = Y at *
    go_enter Tryz.func4, Tryz.ntmps4
    go_upto_region 2 with (go_at_call 16; refine (KF.out _ _ hr).mono ?_; rintro e w' ⟨rfl, hk⟩)
    have hBk := BkC.new w' (0) (0) (0)
    have hok := hk.step ((Below.refl _ _).alloc (Nat.le_refl _) (.cells #[.int .i64 (0), .int .i64 (0), .int .i64 (0)] 23))
    have lk : w'.heap.size < (w'.alloc (.cells #[.int .i64 (0), .int .i64 (0), .int .i64 (0)] 23)).heap.size := by simp
    have sk := hk.2.size
    generalize (w'.alloc (Obj.cells #[Value.int IntKind.i64 (0), Value.int IntKind.i64 (0), Value.int IntKind.i64 (0)] 23)) = W1 at *
    generalize w'.heap.size = k at *
    have hrk := Ok.refl hok.1
    go_upto_region 3 with (go_at_call 20; refine (KW.out _ _ hrk).mono ?_; rintro e w' ⟨rfl, hk⟩)
    go_cut [36] (fun sb wx => sb = .bool false ∧ Ok W1 wx)
    case first =>
      by_cases hM : day < 9223372036854775807
      · go_wp2_with (first
          | (go_at_call 21; refine (KR.out _).mono ?_; rintro e w' ⟨rfl, rfl⟩)
          | (go_at_call 20; refine (KV.out _ _ (by assumption) hM).mono ?_; rintro e w' ⟨rfl, hk2⟩))
        go_meet
        exact ⟨rfl, hk2⟩
      · go_wp2_with (go_at_call 21; refine (KR.out _).mono ?_; rintro e w' ⟨rfl, rfl⟩)
        go_meet
        exact ⟨rfl, hk⟩
    case rest =>
      obtain ⟨rfl, hc⟩ := hcut
      clear KW KV KR tw tv v0 v1 w0 w1 hk hrk
      have hrc := Ok.refl hc.1
      have hBc := hBk.below lk hc.2
      have lc : k < wc.heap.size := Nat.lt_of_lt_of_le lk hc.2.size
      obtain ⟨f0, f1, f2⟩ := hBc.three
      go_upto_region 7 with (go_at_call 22; refine (KY.out _).mono ?_; rintro e w' ⟨rfl, rfl⟩)
      go_region_held3 (fun w' => w'.cell? ⟨k, 0, none⟩ = some (.int .i64 (0)) ∧ w'.cell? ⟨k, 1, none⟩ = some (.int .i64 (0)) ∧ w'.cell? ⟨k, 2, none⟩ = some (.int .i64 (0))) (go_keep)
        (first
          | (go_at_call 23; ((with_reducible refine (c_civil (w := wc) (hrc.step (by go_grown)) _ _ _).mono ?_); rintro e w' ⟨rfl, hk⟩; have hX := hk.2; have k0 := (hk.2.cell (p := ⟨k, 0, none⟩) lc).trans f0; have k1 := (hk.2.cell (p := ⟨k, 1, none⟩) lc).trans f1; have k2 := (hk.2.cell (p := ⟨k, 2, none⟩) lc).trans f2))
          | (go_at_call 19; ((with_reducible refine (c_gbad (w := wc) (hrc.step (by go_grown)) (by decide) (by rfl)).mono ?_); rintro e w' ⟨rfl, hk⟩; have hX := hk.2; have k0 := (hk.2.cell (p := ⟨k, 0, none⟩) lc).trans f0; have k1 := (hk.2.cell (p := ⟨k, 1, none⟩) lc).trans f1; have k2 := (hk.2.cell (p := ⟨k, 2, none⟩) lc).trans f2))
          | (go_at_call 14; ((with_reducible refine (lives_t wc _ (hrc.step (by go_grown))).mono ?_); rintro e w' ⟨rfl, hk⟩; have hX := hk.2; have k0 := (hk.2.cell (p := ⟨k, 0, none⟩) lc).trans f0; have k1 := (hk.2.cell (p := ⟨k, 1, none⟩) lc).trans f1; have k2 := (hk.2.cell (p := ⟨k, 2, none⟩) lc).trans f2)))
      all_goals
        go_wp2_with fail
        go_ret
        exact ⟨rfl, (h.step (hok.2.trans (hc.2.mono hok.2.size))).step hX⟩
  · have hz := oV_ok hy
    obtain ⟨q1, q2⟩ := civ_of_ok hy
    obtain ⟨e0, e1⟩ := cDy_bd day
    obtain ⟨e2, e3⟩ := moOf_bd day
    have hyb := (yr_iff _).1 hy
    have KF : Hid (∀ B X, Ok B X → Calls Tryz.prog 16 #[.int .i64 day] X fun x w' => x = .returned (.tuple #[C3 (yrOf day) (moOf day : Nat) (cDy day), .int .i64 0]) ∧ Ok B w') := fun B X hX => c_of hX day ⟨a0, a1⟩ (hz _) (hz _) (hz _) (oE_ok hy)
    have KG : Hid (∀ B X, Ok B X → Calls Tryz.prog 24 #[.int .i64 day] X fun x w' => x = .returned (C3 (yrOf day) (moOf day : Nat) (cDy day)) ∧ Ok B w') := fun B X hX => c_below hX (cofR_any day X a0 a1 hy)
    have KP : Hid (∀ B X, Ok B X → Calls Tryz.prog 13 #[C3 (yrOf day) (moOf day : Nat) (cDy day)] X fun x w' => x = .returned (.int .i64 0) ∧ Ok B w') := fun B X hX => c_check hX _ _ _ (by unfold I64; omega) (by unfold I64; omega) (by unfold I64; omega) q1
    have KX : Hid (∀ B X, Ok B X → yr (yrOf other) = true → Calls Tryz.prog 25 #[C3 (yrOf day) (moOf day : Nat) (cDy day), C3 (yrOf other) (moOf other : Nat) (cDy other)] X fun x w' => x = .returned (.int .i64 (sgn day other)) ∧ Ok B w') := fun B X hX ho => by
      obtain ⟨c0, c1⟩ := cDy_bd other
      obtain ⟨c2, c3⟩ := moOf_bd other
      have hob := (yr_iff _).1 ho
      exact c_cmp hX _ _ _ (by unfold I64; omega) (by unfold I64; omega) (by unfold I64; omega) _ _ _ (by unfold I64; omega) (by unfold I64; omega) (by unfold I64; omega) (civ_sgn day other)
    rw [hy] at KY
    clear hy hz q1 q2 e0 e1 e2 e3 hyb
    generalize cDy day = d at *
    generalize ((moOf day : Nat) : Int) = m at *
    generalize yrOf day = Y at *
    go_enter Tryz.func4, Tryz.ntmps4
    go_upto_region 2 with (go_at_call 16; refine (KF.out _ _ hr).mono ?_; rintro e w' ⟨rfl, hk⟩)
    have hBk := BkC.new w' (Y) (m) (d)
    have hok := hk.step ((Below.refl _ _).alloc (Nat.le_refl _) (.cells #[.int .i64 (Y), .int .i64 (m), .int .i64 (d)] 23))
    have lk : w'.heap.size < (w'.alloc (.cells #[.int .i64 (Y), .int .i64 (m), .int .i64 (d)] 23)).heap.size := by simp
    have sk := hk.2.size
    generalize (w'.alloc (Obj.cells #[Value.int IntKind.i64 (Y), Value.int IntKind.i64 (m), Value.int IntKind.i64 (d)] 23)) = W1 at *
    generalize w'.heap.size = k at *
    have hrk := Ok.refl hok.1
    go_upto_region 3 with (go_at_call 20; refine (KW.out _ _ hrk).mono ?_; rintro e w' ⟨rfl, hk⟩)
    go_cut [36] (fun sb wx => sb = .bool false ∧ Ok W1 wx)
    case first =>
      by_cases hM : day < 9223372036854775807
      · go_wp2_with (first
          | (go_at_call 21; refine (KR.out _).mono ?_; rintro e w' ⟨rfl, rfl⟩)
          | (go_at_call 20; refine (KV.out _ _ (by assumption) hM).mono ?_; rintro e w' ⟨rfl, hk2⟩))
        go_meet
        exact ⟨rfl, hk2⟩
      · go_wp2_with (go_at_call 21; refine (KR.out _).mono ?_; rintro e w' ⟨rfl, rfl⟩)
        go_meet
        exact ⟨rfl, hk⟩
    case rest =>
      obtain ⟨rfl, hc⟩ := hcut
      clear KW KV KR tw tv v0 v1 w0 w1 hk hrk
      have hrc := Ok.refl hc.1
      have hBc := hBk.below lk hc.2
      have lc : k < wc.heap.size := Nat.lt_of_lt_of_le lk hc.2.size
      obtain ⟨f0, f1, f2⟩ := hBc.three
      go_upto_region 8 with (go_at_call 22; refine (KY.out _).mono ?_; rintro e w' ⟨rfl, rfl⟩)
      go_cut [61] (fun sb wx => sb = .bool false ∧ Below wc.heap.size wc wx)
      case first =>
        go_region_held3 (fun w' => w'.cell? ⟨k, 0, none⟩ = some (.int .i64 (Y)) ∧ w'.cell? ⟨k, 1, none⟩ = some (.int .i64 (m)) ∧ w'.cell? ⟨k, 2, none⟩ = some (.int .i64 (d))) (go_keep)
          (first
          | (go_at_call 24; ((with_reducible refine (KG.out wc _ (hrc.step (by go_grown))).mono ?_); rintro e w' ⟨rfl, hk⟩; have hX := hk.2; have k0 := (hk.2.cell (p := ⟨k, 0, none⟩) lc).trans f0; have k1 := (hk.2.cell (p := ⟨k, 1, none⟩) lc).trans f1; have k2 := (hk.2.cell (p := ⟨k, 2, none⟩) lc).trans f2))
          | (go_at_call 19; ((with_reducible refine (c_gok (w := wc) (hrc.step (by go_grown)) (by rfl) (by rfl) (by rfl)).mono ?_); rintro e w' ⟨rfl, hk⟩; have hX := hk.2; have k0 := (hk.2.cell (p := ⟨k, 0, none⟩) lc).trans f0; have k1 := (hk.2.cell (p := ⟨k, 1, none⟩) lc).trans f1; have k2 := (hk.2.cell (p := ⟨k, 2, none⟩) lc).trans f2))
          | (go_at_call 13; ((with_reducible refine (KP.out wc _ (hrc.step (by go_grown))).mono ?_); rintro e w' ⟨rfl, hk⟩; have hX := hk.2; have k0 := (hk.2.cell (p := ⟨k, 0, none⟩) lc).trans f0; have k1 := (hk.2.cell (p := ⟨k, 1, none⟩) lc).trans f1; have k2 := (hk.2.cell (p := ⟨k, 2, none⟩) lc).trans f2)))
        all_goals
          go_wp2_with fail
          go_meet
          exact ⟨rfl, hX⟩
      case rest =>
        obtain ⟨rfl, hX⟩ := hcut
        have hBd := hBc.below lc hX
        have ld := Nat.lt_of_lt_of_le lc hX.size
        have hrd := Ok.refl (hrc.step hX).1
        have hod := (h.step (hok.2.trans (hc.2.mono hok.2.size))).step hX
        clear hX f0 f1 f2 lc hrc hBc KG KP KF KY hok
        cases hyo : yr (yrOf other)
        · have hz := oV_no hyo
          have KF2 : Hid (∀ B X, Ok B X → Calls Tryz.prog 16 #[.int .i64 other] X fun x w' => x = .returned (.tuple #[C3 0 0 0, .int .i64 6]) ∧ Ok B w') := fun B X hX => c_of hX other ⟨b0, b1⟩ (hz _) (hz _) (hz _) (oE_no hyo)
          go_upto_region 11 with (go_at_call 16; refine (KF2.out _ _ hrd).mono ?_; rintro e w' ⟨rfl, hk⟩)
          have hBq := BkC.new w' (0) (0) (0)
          have hoq := hk.step ((Below.refl _ _).alloc (Nat.le_refl _) (.cells #[.int .i64 (0), .int .i64 (0), .int .i64 (0)] 23))
          have lq : w'.heap.size < (w'.alloc (.cells #[.int .i64 (0), .int .i64 (0), .int .i64 (0)] 23)).heap.size := by simp
          have sq := hk.2.size
          generalize (w'.alloc (Obj.cells #[Value.int IntKind.i64 (0), Value.int IntKind.i64 (0), Value.int IntKind.i64 (0)] 23)) = W2 at *
          generalize w'.heap.size = q at *
          have hrq := Ok.refl hoq.1
          go_wp2_with (go_at_call 14; refine (lives_t _ _ hrq).mono ?_; rintro e w' ⟨rfl, hk⟩)
          go_ret
          exact ⟨rfl, (hod.step hoq.2).step hk.2⟩
        · have hz := oV_ok hyo
          have KF2 : Hid (∀ B X, Ok B X → Calls Tryz.prog 16 #[.int .i64 other] X fun x w' => x = .returned (.tuple #[C3 (yrOf other) (moOf other : Nat) (cDy other), .int .i64 0]) ∧ Ok B w') := fun B X hX => c_of hX other ⟨b0, b1⟩ (hz _) (hz _) (hz _) (oE_ok hyo)
          have KX2 : Hid (∀ B X, Ok B X → Calls Tryz.prog 25 #[C3 Y m d, C3 (yrOf other) (moOf other : Nat) (cDy other)] X fun x w' => x = .returned (.int .i64 (sgn day other)) ∧ Ok B w') := fun B X hX => KX.out B X hX hyo
          clear hz KX hyo
          generalize cDy other = d2 at *
          generalize ((moOf other : Nat) : Int) = m2 at *
          generalize yrOf other = Y2 at *
          go_upto_region 11 with (go_at_call 16; refine (KF2.out _ _ hrd).mono ?_; rintro e w' ⟨rfl, hk⟩)
          have hBq := BkC.new w' (Y2) (m2) (d2)
          have hoq := hk.step ((Below.refl _ _).alloc (Nat.le_refl _) (.cells #[.int .i64 (Y2), .int .i64 (m2), .int .i64 (d2)] 23))
          have lq : w'.heap.size < (w'.alloc (.cells #[.int .i64 (Y2), .int .i64 (m2), .int .i64 (d2)] 23)).heap.size := by simp
          have sq := hk.2.size
          generalize (w'.alloc (Obj.cells #[Value.int IntKind.i64 (Y2), Value.int IntKind.i64 (m2), Value.int IntKind.i64 (d2)] 23)) = W2 at *
          generalize w'.heap.size = q at *
          have hrq := Ok.refl hoq.1
          have hBd2 := hBd.below ld hoq.2
          obtain ⟨f0, f1, f2⟩ := hBd2.three
          obtain ⟨f3, f4, f5⟩ := hBq.three
          rcases Int.lt_trichotomy day other with hl | hl | hl
          · have hs : sgn day other = -1 := if_pos hl
            have hg : ¬ other < day := by omega
            rw [hs] at KX2
            clear hs
            go_wp2_with (first
              | (go_at_call 25; refine (KX2.out _ _ hrq).mono ?_; rintro e w' ⟨rfl, hk⟩)
              | (go_at_call 14; refine (lives_t _ _ hk).mono ?_; rintro e w' ⟨rfl, hk2⟩))
            go_ret
            exact ⟨rfl, (hod.step hoq.2).step hk2.2⟩
          · subst hl
            have hs : sgn day day = 0 := by unfold sgn; rw [if_neg (by omega), if_neg (by omega)]
            have hg : ¬ day < day := by omega
            rw [hs] at KX2
            clear hs
            go_wp2_with (first
              | (go_at_call 25; refine (KX2.out _ _ hrq).mono ?_; rintro e w' ⟨rfl, hk⟩)
              | (go_at_call 14; refine (lives_t _ _ hk).mono ?_; rintro e w' ⟨rfl, hk2⟩))
            go_ret
            exact ⟨rfl, (hod.step hoq.2).step hk2.2⟩
          · have hs : sgn day other = 1 := by unfold sgn; rw [if_neg (by omega), if_pos hl]
            have hg : ¬ day < other := by omega
            rw [hs] at KX2
            clear hs
            go_wp2_with (first
              | (go_at_call 25; refine (KX2.out _ _ hrq).mono ?_; rintro e w' ⟨rfl, hk⟩)
              | (go_at_call 14; refine (lives_t _ _ hk).mono ?_; rintro e w' ⟨rfl, hk2⟩))
            go_ret
            exact ⟨rfl, (hod.step hoq.2).step hk2.2⟩
end Go.Proofs.YtiemlpmhhbmfiaaGreatDoor.civ
/- The law on the order of civil days. -/
namespace Go.Proofs.YtiemlpmhhbmfiaaGreatDoor.civ
open Go.RowKit

theorem three_boxes (W W1 : World) (a b c x y z u v t : Int) (hW : W1 = ((W.alloc (.cells #[.int .i64 a, .int .i64 b, .int .i64 c] 23)).alloc (.cells #[.int .i64 x, .int .i64 y, .int .i64 z] 23)).alloc (.cells #[.int .i64 u, .int .i64 v, .int .i64 t] 23)) :
    BkC W1 W.heap.size a b c ∧ BkC W1 (W.heap.size + 1) x y z ∧ BkC W1 (W.heap.size + 1 + 1) u v t ∧ W.heap.size + 1 + 1 < W1.heap.size ∧ Below W.heap.size W W1 := by
  subst hW
  have h1 := BkC.new W a b c
  have h2 := BkC.new (W.alloc (.cells #[.int .i64 a, .int .i64 b, .int .i64 c] 23)) x y z
  have h3 := BkC.new ((W.alloc (.cells #[.int .i64 a, .int .i64 b, .int .i64 c] 23)).alloc (.cells #[.int .i64 x, .int .i64 y, .int .i64 z] 23)) u v t
  rw [show ((W.alloc (.cells #[.int .i64 a, .int .i64 b, .int .i64 c] 23)).alloc (.cells #[.int .i64 x, .int .i64 y, .int .i64 z] 23)).heap.size = W.heap.size + 1 + 1 by simp] at h3
  rw [show (W.alloc (.cells #[.int .i64 a, .int .i64 b, .int .i64 c] 23)).heap.size = W.heap.size + 1 by simp] at h2
  have b2 : Below (W.heap.size + 1) (W.alloc (.cells #[.int .i64 a, .int .i64 b, .int .i64 c] 23)) ((W.alloc (.cells #[.int .i64 a, .int .i64 b, .int .i64 c] 23)).alloc (.cells #[.int .i64 x, .int .i64 y, .int .i64 z] 23)) := (Below.refl _ _).alloc (by simp) _
  have b3 : Below (W.heap.size + 1 + 1) ((W.alloc (.cells #[.int .i64 a, .int .i64 b, .int .i64 c] 23)).alloc (.cells #[.int .i64 x, .int .i64 y, .int .i64 z] 23)) (((W.alloc (.cells #[.int .i64 a, .int .i64 b, .int .i64 c] 23)).alloc (.cells #[.int .i64 x, .int .i64 y, .int .i64 z] 23)).alloc (.cells #[.int .i64 u, .int .i64 v, .int .i64 t] 23)) := (Below.refl _ _).alloc (by simp) _
  refine ⟨(h1.below (by omega) b2).below (by omega) b3, h2.below (by omega) b3, h3, by simp, ?_⟩
  exact (((Below.refl _ _).alloc (Nat.le_refl _) _).alloc (by simp) _).alloc (by simp; omega) _

set_option maxHeartbeats 4000000 in
set_option maxRecDepth 100000 in
theorem order_law (a b c x y z u v t : Int) (w W : World) (ha : I64 a) (hb : I64 b) (hc : I64 c) (hx : I64 x) (hy : I64 y) (hz : I64 z) (hu : I64 u) (hv : I64 v) (ht : I64 t) (h : Ok w W) :
    Calls Tryz.prog 5 #[C3 a b c, C3 x y z, C3 u v t] W fun e w' => e = .returned (.bool true) ∧ Ok w w' := by
  obtain ⟨W1, hW1⟩ : ∃ W1, W1 = ((W.alloc (.cells #[.int .i64 a, .int .i64 b, .int .i64 c] 23)).alloc (.cells #[.int .i64 x, .int .i64 y, .int .i64 z] 23)).alloc (.cells #[.int .i64 u, .int .i64 v, .int .i64 t] 23) := ⟨_, rfl⟩
  obtain ⟨hBg, hBk, hBq, lq, hb1⟩ := three_boxes W W1 a b c x y z u v t hW1
  have ho1 := h.step hb1
  have hr := Ok.refl ho1.1
  have KA : Hid (∀ X, Ok W1 X → Calls Tryz.prog 25 #[C3 a b c, C3 x y z] X fun o w' => o = .returned (.int .i64 (cm3 a b c x y z)) ∧ Ok W1 w') := fun X hX => c_cmp hX a b c ha hb hc x y z hx hy hz rfl
  have KB : Hid (∀ X, Ok W1 X → Calls Tryz.prog 25 #[C3 x y z, C3 a b c] X fun o w' => o = .returned (.int .i64 (cm3 x y z a b c)) ∧ Ok W1 w') := fun X hX => c_cmp hX x y z hx hy hz a b c ha hb hc rfl
  have KC : Hid (∀ X, Ok W1 X → Calls Tryz.prog 25 #[C3 x y z, C3 u v t] X fun o w' => o = .returned (.int .i64 (cm3 x y z u v t)) ∧ Ok W1 w') := fun X hX => c_cmp hX x y z hx hy hz u v t hu hv ht rfl
  have KD : Hid (∀ X, Ok W1 X → Calls Tryz.prog 25 #[C3 a b c, C3 u v t] X fun o w' => o = .returned (.int .i64 (cm3 a b c u v t)) ∧ Ok W1 w') := fun X hX => c_cmp hX a b c ha hb hc u v t hu hv ht rfl
  have KR : Hid (∀ X, Ok W1 X → Calls Tryz.prog 26 #[C3 a b c, C3 x y z] X fun o w' => o = .returned (.int .i64 (cm3 a b c x y z)) ∧ Ok W1 w') := fun X hX => c_below hX (ccmpR_any a b c x y z X)
  have hsw : cm3 x y z a b c = -cm3 a b c x y z := cm3_swap a b c x y z
  have tp : (cm3 a b c x y z != cm3 a b c x y z) = false := by simp
  have tq : (cm3 x y z a b c != -cm3 a b c x y z) = false := by rw [hsw]; simp
  have tz : ((cm3 a b c x y z == 0) == eqB a b c x y z) = true := by
    have := (cm3_zero (a := a) (b := b) (c := c) (x := x) (y := y) (z := z)).trans (eqB_iff (y := a) (m := b) (d := c) (z := x) (n := y) (e := z)).symm
    cases he : eqB a b c x y z
    · rw [he] at this
      have hn : ¬ cm3 a b c x y z = 0 := fun h => by cases this.1 h
      simp [hn]
    · simp [this.2 he]
  have hq := fun w => eq_any a b c x y z w
  obtain ⟨p0, p1⟩ := cm3_bd a b c x y z
  have htr : cm3 a b c x y z ≤ 0 → cm3 x y z u v t ≤ 0 → cm3 a b c u v t ≤ 0 := cm3_trans
  clear hsw ha hb hc hx hy hz hu hv ht
  generalize cm3 a b c x y z = P at *
  generalize cm3 x y z a b c = Q at *
  generalize cm3 x y z u v t = R at *
  generalize cm3 a b c u v t = T at *
  generalize eqB a b c x y z = E at *
  obtain ⟨g, hg⟩ : ∃ g, W.heap.size = g := ⟨_, rfl⟩
  rw [hg] at hBg hBk hBq lq
  have lg : g < W1.heap.size := by omega
  have lk : g + 1 < W1.heap.size := by omega
  obtain ⟨f0, f1, f2⟩ := hBg.three
  obtain ⟨f3, f4, f5⟩ := hBk.three
  obtain ⟨f6, f7, f8⟩ := hBq.three
  have hcase : 0 < P ∨ (¬ 0 < P ∧ 0 < R) ∨ (¬ 0 < P ∧ ¬ 0 < R ∧ T ≤ 0) := by omega
  have HT := Lib.hid htr
  clear htr
  rcases hcase with h1 | ⟨h1, h2⟩ | ⟨h1, h2, h3⟩
  all_goals
    go_enter Tryz.func5, Tryz.ntmps5
    go_upto_region 1 with fail
    try rw [hg]
    rw [← hW1]
    clear hW1 hg
    go_wp2_with (first
      | (go_at_call 25; ((with_reducible refine (KA.out _ (by assumption)).mono ?_); rintro e w' ⟨rfl, hk⟩; have hX := hk.2; have k0 := (hk.2.cell (p := ⟨g, 0, none⟩) lg).trans f0; have k1 := (hk.2.cell (p := ⟨g, 1, none⟩) lg).trans f1; have k2 := (hk.2.cell (p := ⟨g, 2, none⟩) lg).trans f2; have k3 := (hk.2.cell (p := ⟨g + 1, 0, none⟩) lk).trans f3; have k4 := (hk.2.cell (p := ⟨g + 1, 1, none⟩) lk).trans f4; have k5 := (hk.2.cell (p := ⟨g + 1, 2, none⟩) lk).trans f5; have k6 := (hk.2.cell (p := ⟨g + 1 + 1, 0, none⟩) lq).trans f6; have k7 := (hk.2.cell (p := ⟨g + 1 + 1, 1, none⟩) lq).trans f7; have k8 := (hk.2.cell (p := ⟨g + 1 + 1, 2, none⟩) lq).trans f8))
      | (go_at_call 25; ((with_reducible refine (KB.out _ (by assumption)).mono ?_); rintro e w' ⟨rfl, hk⟩; have hX := hk.2; have k0 := (hk.2.cell (p := ⟨g, 0, none⟩) lg).trans f0; have k1 := (hk.2.cell (p := ⟨g, 1, none⟩) lg).trans f1; have k2 := (hk.2.cell (p := ⟨g, 2, none⟩) lg).trans f2; have k3 := (hk.2.cell (p := ⟨g + 1, 0, none⟩) lk).trans f3; have k4 := (hk.2.cell (p := ⟨g + 1, 1, none⟩) lk).trans f4; have k5 := (hk.2.cell (p := ⟨g + 1, 2, none⟩) lk).trans f5; have k6 := (hk.2.cell (p := ⟨g + 1 + 1, 0, none⟩) lq).trans f6; have k7 := (hk.2.cell (p := ⟨g + 1 + 1, 1, none⟩) lq).trans f7; have k8 := (hk.2.cell (p := ⟨g + 1 + 1, 2, none⟩) lq).trans f8))
      | (go_at_call 25; ((with_reducible refine (KC.out _ (by assumption)).mono ?_); rintro e w' ⟨rfl, hk⟩; have hX := hk.2; have k0 := (hk.2.cell (p := ⟨g, 0, none⟩) lg).trans f0; have k1 := (hk.2.cell (p := ⟨g, 1, none⟩) lg).trans f1; have k2 := (hk.2.cell (p := ⟨g, 2, none⟩) lg).trans f2; have k3 := (hk.2.cell (p := ⟨g + 1, 0, none⟩) lk).trans f3; have k4 := (hk.2.cell (p := ⟨g + 1, 1, none⟩) lk).trans f4; have k5 := (hk.2.cell (p := ⟨g + 1, 2, none⟩) lk).trans f5; have k6 := (hk.2.cell (p := ⟨g + 1 + 1, 0, none⟩) lq).trans f6; have k7 := (hk.2.cell (p := ⟨g + 1 + 1, 1, none⟩) lq).trans f7; have k8 := (hk.2.cell (p := ⟨g + 1 + 1, 2, none⟩) lq).trans f8))
      | (go_at_call 25; ((with_reducible refine (KD.out _ (by assumption)).mono ?_); rintro e w' ⟨rfl, hk⟩; have hX := hk.2; have k0 := (hk.2.cell (p := ⟨g, 0, none⟩) lg).trans f0; have k1 := (hk.2.cell (p := ⟨g, 1, none⟩) lg).trans f1; have k2 := (hk.2.cell (p := ⟨g, 2, none⟩) lg).trans f2; have k3 := (hk.2.cell (p := ⟨g + 1, 0, none⟩) lk).trans f3; have k4 := (hk.2.cell (p := ⟨g + 1, 1, none⟩) lk).trans f4; have k5 := (hk.2.cell (p := ⟨g + 1, 2, none⟩) lk).trans f5; have k6 := (hk.2.cell (p := ⟨g + 1 + 1, 0, none⟩) lq).trans f6; have k7 := (hk.2.cell (p := ⟨g + 1 + 1, 1, none⟩) lq).trans f7; have k8 := (hk.2.cell (p := ⟨g + 1 + 1, 2, none⟩) lq).trans f8))
      | (go_at_call 26; ((with_reducible refine (KR.out _ (by assumption)).mono ?_); rintro e w' ⟨rfl, hk⟩; have hX := hk.2; have k0 := (hk.2.cell (p := ⟨g, 0, none⟩) lg).trans f0; have k1 := (hk.2.cell (p := ⟨g, 1, none⟩) lg).trans f1; have k2 := (hk.2.cell (p := ⟨g, 2, none⟩) lg).trans f2; have k3 := (hk.2.cell (p := ⟨g + 1, 0, none⟩) lk).trans f3; have k4 := (hk.2.cell (p := ⟨g + 1, 1, none⟩) lk).trans f4; have k5 := (hk.2.cell (p := ⟨g + 1, 2, none⟩) lk).trans f5; have k6 := (hk.2.cell (p := ⟨g + 1 + 1, 0, none⟩) lq).trans f6; have k7 := (hk.2.cell (p := ⟨g + 1 + 1, 1, none⟩) lq).trans f7; have k8 := (hk.2.cell (p := ⟨g + 1 + 1, 2, none⟩) lq).trans f8))
      | (go_at_call 14; refine (lives_t W1 _ (by assumption)).mono ?_; rintro e w' ⟨rfl, hk⟩))
    go_ret
    exact ⟨rfl, h.step (hb1.trans (hk.2.mono hb1.size))⟩
end Go.Proofs.YtiemlpmhhbmfiaaGreatDoor.civ
/- The laws on texts of civil days. -/
namespace Go.Proofs.YtiemlpmhhbmfiaaGreatDoor.civ
open Go.RowKit

theorem ctx_len {y m d : Int} (h : cE y m d = 0) : (civS y m d).size ≤ 30 := by
  obtain ⟨h1, -, -⟩ := cE_zero.1 h
  obtain ⟨hy, -⟩ := mE_zero.1 h1
  have hyb := (yr_iff y).1 hy
  have hlen : (Lib.decDigits y.natAbs).length ≤ 19 := dec_len 18 y.natAbs (by omega)
  have e : (civS y m d).size = (ctx y m d).length := by rw [size_l]; simp [civS]
  rw [e]
  unfold ctx ytx padd preB
  rw [List.length_append, List.length_append, List.length_append, List.length_replicate]
  have h5 : (45 :: (two2 m.toNat ++ 45 :: two2 d.toNat)).length = 6 := rfl
  rw [h5]
  split <;> simp <;> omega
set_option maxHeartbeats 4000000 in
set_option maxRecDepth 100000 in
theorem text_law (y m d : Int) (w W : World) (hy : I64 y) (hm : I64 m) (hd : I64 d) (h : Ok w W) :
    Calls Tryz.prog 6 #[C3 y m d] W fun e w' => e = .returned (.bool true) ∧ Ok w w' := by
  obtain ⟨⟨f0, f1, f2⟩, lg, hb1⟩ := tri_new W y m d 23 _ rfl
  obtain ⟨W1, hW1⟩ : ∃ W1, W1 = W.alloc (.cells #[.int .i64 y, .int .i64 m, .int .i64 d] 23) := ⟨_, rfl⟩
  have hBg := BkC.new W y m d
  rw [← hW1] at f0 f1 f2 lg hb1 hBg
  have ho1 := h.step hb1
  have hr := Ok.refl ho1.1
  have KC : Hid (∀ X, Ok W1 X → Calls Tryz.prog 10 #[C3 y m d] X fun x w' => x = .returned (.int .i64 (cE y m d)) ∧ Ok W1 w') := fun X hX => c_below hX (cchkR_any y m d X)
  have KT : Hid (∀ X, Ok W1 X → Calls Tryz.prog 27 #[C3 y m d] X fun x w' => x = .returned (.tuple #[.string (cTx y m d), .int .i64 (cE y m d)]) ∧ Ok W1 w') := fun X hX => c_text hX y m d hy hm hd rfl rfl
  obtain ⟨g, hg⟩ : ∃ g, W.heap.size = g := ⟨_, rfl⟩
  rw [hg] at f0 f1 f2 lg hBg
  by_cases hE : cE y m d = 0
  · have hT : cTx y m d = civS y m d := if_pos hE
    obtain ⟨r1, r2, r3, r4⟩ := ctx_reads hE
    have hlen := ctx_len hE
    have hdl : (civS y m d).data.toList = ctx y m d := by simp [civS]
    have hv : ∀ v, cpV (ctx y m d) v = v := fun v => if_pos r1
    have KP : Hid (∀ X, Ok W1 X → Calls Tryz.prog 28 #[.string (civS y m d)] X fun x w' => x = .returned (.tuple #[C3 y m d, .int .i64 0]) ∧ Ok W1 w') := fun X hX => c_parse hX _ (Nat.le_trans hlen (by decide)) (by rw [hdl, hv]; exact r2) (by rw [hdl, hv]; exact r3) (by rw [hdl, hv]; exact r4) (by rw [hdl]; exact r1)
    have KR : Hid (∀ B X, Ok B X → Calls Tryz.prog 29 #[C3 y m d] X fun x w' => x = .returned (.string (civS y m d)) ∧ Ok B w') := fun B X hX => c_below hX (ctxtR_any y m d X hE)
    rw [hT, hE] at KT
    rw [hE] at KC
    clear hE hT r1 r2 r3 r4 hlen hdl hv hy hm hd
    generalize civS y m d = T at *
    have tT : (T.toList == T.toList) = true := by simp
    go_enter Tryz.func6, Tryz.ntmps6
    go_upto_region 1 with fail
    rw [← hW1]
    clear hW1
    go_upto_region 5 with (first
      | (go_at_call 10; ((with_reducible refine (KC.out _ (by assumption)).mono ?_); rintro e w' ⟨rfl, hk⟩; have hX := hk.2; have k0 := (hk.2.cell (p := ⟨g, 0, none⟩) lg).trans f0; have k1 := (hk.2.cell (p := ⟨g, 1, none⟩) lg).trans f1; have k2 := (hk.2.cell (p := ⟨g, 2, none⟩) lg).trans f2))
      | (go_at_call 27; ((with_reducible refine (KT.out _ (by assumption)).mono ?_); rintro e w' ⟨rfl, hk⟩; have hX := hk.2; have k0 := (hk.2.cell (p := ⟨g, 0, none⟩) lg).trans f0; have k1 := (hk.2.cell (p := ⟨g, 1, none⟩) lg).trans f1; have k2 := (hk.2.cell (p := ⟨g, 2, none⟩) lg).trans f2)))
    go_upto_region 6 with (go_at_call 28; ((with_reducible refine (KP.out _ (by assumption)).mono ?_); rintro e w' ⟨rfl, hk⟩; have hX := hk.2; have k0 := (hk.2.cell (p := ⟨g, 0, none⟩) lg).trans f0; have k1 := (hk.2.cell (p := ⟨g, 1, none⟩) lg).trans f1; have k2 := (hk.2.cell (p := ⟨g, 2, none⟩) lg).trans f2))
    have hBk := BkC.new w' (y) (m) (d)
    have hok := hk.step ((Below.refl _ _).alloc (Nat.le_refl _) (.cells #[.int .i64 (y), .int .i64 (m), .int .i64 (d)] 23))
    have lk : w'.heap.size < (w'.alloc (.cells #[.int .i64 (y), .int .i64 (m), .int .i64 (d)] 23)).heap.size := by simp
    have sk := hk.2.size
    generalize (w'.alloc (Obj.cells #[Value.int IntKind.i64 (y), Value.int IntKind.i64 (m), Value.int IntKind.i64 (d)] 23)) = W2 at *
    generalize w'.heap.size = k at *
    have hrk := Ok.refl hok.1
    have hBg2 := hBg.below lg hok.2
    have lg2 : g < W2.heap.size := Nat.lt_of_lt_of_le lg hok.2.size
    obtain ⟨g0, g1, g2⟩ := hBg2.three
    obtain ⟨g3, g4, g5⟩ := hBk.three
    clear KC KT KP hr
    go_wp2_with (first
      | (go_at_call 29; ((with_reducible refine (KR.out W2 _ (by assumption)).mono ?_); rintro e w' ⟨rfl, hk⟩; have hX := hk.2; have k0 := (hk.2.cell (p := ⟨g, 0, none⟩) lg2).trans g0; have k1 := (hk.2.cell (p := ⟨g, 1, none⟩) lg2).trans g1; have k2 := (hk.2.cell (p := ⟨g, 2, none⟩) lg2).trans g2; have k3 := (hk.2.cell (p := ⟨k, 0, none⟩) lk).trans g3; have k4 := (hk.2.cell (p := ⟨k, 1, none⟩) lk).trans g4; have k5 := (hk.2.cell (p := ⟨k, 2, none⟩) lk).trans g5))
      | (go_at_call 19; ((with_reducible refine (c_gok (w := W2) (by assumption) (by rfl) (by rfl) (by rfl)).mono ?_); rintro e w' ⟨rfl, hk⟩; have hX := hk.2; have k0 := (hk.2.cell (p := ⟨g, 0, none⟩) lg2).trans g0; have k1 := (hk.2.cell (p := ⟨g, 1, none⟩) lg2).trans g1; have k2 := (hk.2.cell (p := ⟨g, 2, none⟩) lg2).trans g2; have k3 := (hk.2.cell (p := ⟨k, 0, none⟩) lk).trans g3; have k4 := (hk.2.cell (p := ⟨k, 1, none⟩) lk).trans g4; have k5 := (hk.2.cell (p := ⟨k, 2, none⟩) lk).trans g5))
      | (go_at_call 14; ((with_reducible refine (lives_t W2 _ (by assumption)).mono ?_); rintro e w' ⟨rfl, hk⟩)))
    go_ret
    exact ⟨rfl, h.step (hb1.trans ((hok.2.trans (hk.2.mono hok.2.size)).mono hb1.size))⟩
  · have hT : cTx y m d = ⟨#[]⟩ := if_neg hE
    have tE : (cE y m d != 0) = true := by rw [bne_iff_ne]; exact hE
    have tS : (cE y m d == cE y m d) = true := by simp
    rw [hT] at KT
    clear hE hT hy hm hd
    generalize cE y m d = E at *
    go_enter Tryz.func6, Tryz.ntmps6
    go_upto_region 1 with fail
    rw [← hW1]
    clear hW1
    go_wp2_with (first
      | (go_at_call 10; ((with_reducible refine (KC.out _ (by assumption)).mono ?_); rintro e w' ⟨rfl, hk⟩; have hX := hk.2; have k0 := (hk.2.cell (p := ⟨g, 0, none⟩) lg).trans f0; have k1 := (hk.2.cell (p := ⟨g, 1, none⟩) lg).trans f1; have k2 := (hk.2.cell (p := ⟨g, 2, none⟩) lg).trans f2))
      | (go_at_call 27; ((with_reducible refine (KT.out _ (by assumption)).mono ?_); rintro e w' ⟨rfl, hk⟩; have hX := hk.2; have k0 := (hk.2.cell (p := ⟨g, 0, none⟩) lg).trans f0; have k1 := (hk.2.cell (p := ⟨g, 1, none⟩) lg).trans f1; have k2 := (hk.2.cell (p := ⟨g, 2, none⟩) lg).trans f2))
      | (go_at_call 14; ((with_reducible refine (lives_t W1 _ (by assumption)).mono ?_); rintro e w' ⟨rfl, hk⟩)))
    go_ret
    exact ⟨rfl, h.step (hb1.trans (hk.2.mono hb1.size))⟩
end Go.Proofs.YtiemlpmhhbmfiaaGreatDoor.civ
