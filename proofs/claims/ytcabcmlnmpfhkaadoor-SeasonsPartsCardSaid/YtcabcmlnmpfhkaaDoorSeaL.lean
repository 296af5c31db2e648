/- The law's own small functions (run, days, list), each with what it returns. -/
import Derived.Test.YtcabcmlnmpfhkaaDoorSeaP
import Derived.Laws.StructEq
import Derived.BigQuiet
namespace Go.Proofs.YtcabcmlnmpfhkaaDoor.sea
open Go.RowKit

noncomputable def fE (i : Nat) : Field := (Tryd.prog.fieldsOf 30).toList.getD i default
theorem fieldsE : (Tryd.prog.fieldsOf 30).toList = [fE 0, fE 1] := by kernel_rfl
theorem fE0 : (fE 0).name = "Inf" ∧ (fE 0).type = 28 ∧ (fE 0).offset = 0 := ⟨by kernel_rfl, by kernel_rfl, by kernel_rfl⟩
theorem fE1 : (fE 1).name = "Day" ∧ (fE 1).type = 2 ∧ (fE 1).offset = 1 := ⟨by kernel_rfl, by kernel_rfl, by kernel_rfl⟩
noncomputable def fR (i : Nat) : Field := (Tryd.prog.fieldsOf 32).toList.getD i default
theorem fieldsR : (Tryd.prog.fieldsOf 32).toList = [fR 0, fR 1] := by kernel_rfl
theorem fR0 : (fR 0).name = "Lo" ∧ (fR 0).type = 30 ∧ (fR 0).offset = 0 := ⟨by kernel_rfl, by kernel_rfl, by kernel_rfl⟩
theorem fR1 : (fR 1).name = "Hi" ∧ (fR 1).type = 30 ∧ (fR 1).offset = 2 := ⟨by kernel_rfl, by kernel_rfl, by kernel_rfl⟩
theorem partN (t : TypeId) (ht : ∀ w, (isAgg t).run Tryd.prog w = .ok false w) (xs : Array Value) (o : Nat) (v : Value) (h : xs[o]? = some v) (w : World) : (part t xs o).run Tryd.prog w = .ok v w := by
  simp [part, Sem.run_bind, ht, h]
theorem agg64 (w : World) : (isAgg 2).run Tryd.prog w = .ok false w := by kernel_rfl
theorem agg8 (w : World) : (isAgg 28).run Tryd.prog w = .ok false w := by kernel_rfl
theorem partL (a b c d : Value) (w : World) : (part 30 #[a, b, c, d] 0).run Tryd.prog w = .ok (.agg #[a, b]) w := by kernel_rfl
theorem partH (a b c d : Value) (w : World) : (part 30 #[a, b, c, d] 2).run Tryd.prog w = .ok (.agg #[c, d]) w := by kernel_rfl
theorem eqE_any (k : Nat) (a b x y : Int) (w : World) : (Op.equalIn (k + 2) 30 (.agg #[.int .i8 a, .int .i64 b]) (.agg #[.int .i8 x, .int .i64 y])).run Tryd.prog w = .ok (a == x && b == y) w := by
  rw [run_equalIn_struct w (k + 1) 30 _ _ (by kernel_rfl) (by kernel_rfl), fieldsE]
  have p0 : ∀ (a b : Value) (w : World), (part 28 #[a, b] 0).run Tryd.prog w = .ok a w := fun a b w => partN _ agg8 _ _ _ rfl w
  have p1 : ∀ (a b : Value) (w : World), (part 2 #[a, b] 1).run Tryd.prog w = .ok b w := fun a b w => partN _ agg64 _ _ _ rfl w
  by_cases h1 : a = x <;> by_cases h2 : b = y
  all_goals
    simp [h1, h2, Op.eqFields, fE0, fE1, Sem.run_bind, p0, p1, Result.andThen_ok, run_equalIn_int w k _ .i8 .i8 _ _ Tryd.underlying28, run_equalIn_int w k _ .i64 .i64 _ _ Tryd.underlying2]
/-- Two runs, field by field. -/
def eqR (a b c d x y z u : Int) : Bool := (a == x && b == y) && (c == z && d == u)
theorem eqR_any (a b c d x y z u : Int) (w : World) : (binOp .eql 32 (R4 a b c d) (R4 x y z u)).run Tryd.prog w = .ok (.bool (eqR a b c d x y z u)) w := by
  unfold R4
  rw [run_eql_struct, run_equalIn_struct w 9999 32 _ _ (by kernel_rfl) (by kernel_rfl), fieldsR]
  cases h1 : (a == x && b == y) <;> cases h2 : (c == z && d == u)
  all_goals
    simp [eqR, h1, h2, Op.eqFields, fR0, fR1, Sem.run_bind, partL, partH, Result.andThen_ok, eqE_any 9997]
theorem eqR_same (a b c d : Int) : eqR a b c d a b c d = true := by simp [eqR]
theorem runL_bad (b : Int) (x y z u : Int) (w : World) (hb : b ≠ 0) :
    Calls Tryd.prog 12 #[R4 0 0 0 0, .int .i64 b, R4 x y z u, .int .i64 b] w fun e w' => e = .returned (.bool true) ∧ Below w.heap.size w w' := by
  have HQ := Lib.hid (fun w => eqR_any 0 0 0 0 0 0 0 0 w)
  rw [eqR_same] at HQ
  have h1 : (b != 0) = true := by simp [hb]
  have h2 : (b == b) = true := by simp
  unfold R4 at *
  have q := HQ.out
  clear HQ hb
  go_enter Tryd.func12, Tryd.ntmps12
  go_wp2_with fail
  go_ret
  exact ⟨rfl, by go_grown⟩
theorem runL_ok (x y z u : Int) (w : World) :
    Calls Tryd.prog 12 #[R4 x y z u, .int .i64 0, R4 x y z u, .int .i64 0] w fun e w' => e = .returned (.bool true) ∧ Below w.heap.size w w' := by
  have HQ := Lib.hid (fun w => eqR_any x y z u x y z u w)
  rw [eqR_same] at HQ
  unfold R4 at *
  have q := HQ.out
  clear HQ
  go_enter Tryd.func12, Tryd.ntmps12
  go_wp2_with fail
  go_ret
  exact ⟨rfl, by go_grown⟩
theorem res_run1 {fn : Func} {t : Tmp} {tmps : Array Value} {W : World} {g : Nat} {a b c d : Int} (h : fn.results = #[.cell t 32]) (ha : tmps[t]?.getD undef = .pointer (some ⟨g, 0, none⟩)) (hb : Four g a b c d W) :
    (results fn tmps).run Tryd.prog W = .ok (R4 a b c d) W := by
  obtain ⟨q0, q1, q2, q3⟩ := hb
  simp [results, h, go_sem, ha, q0, q1, q2, q3, R4]
theorem days_any (a b : Int) (w : World) :
    Calls Tryd.prog 27 #[.int .i64 a, .int .i64 b] w fun e w' => e = .returned (R4 0 a 0 b) ∧ Below w.heap.size w w' := by
  have hF := bkr_four w 0 a 0 b
  go_enter Tryd.func27, Tryd.ntmps27
  go_wp2_with fail
  exact bodyPost_ret (res_run1 rfl rfl hF) rfl ⟨rfl, by go_grown⟩
set_option maxHeartbeats 800000 in
theorem list_t (l : List Int) (a b : Option Addr) (m : Nat) (w : World) (hl : l.length ≤ 100) (ha : LisC w a l) (hb : LisC w b l) :
    Calls Tryd.prog 18 #[.slice a l.length l.length, .slice b l.length m] w fun e w' => e = .returned (.bool true) ∧ Below w.heap.size w w' := by
  have HA := Lib.hid ha
  have HB := Lib.hid hb
  clear ha hb
  have HL : Hid (∀ k : Nat, k < l.length → l ≠ [] ∧ l[k]? = some (l.getD k 0)) := fun k hk => ⟨fun e => by subst e; simp at hk, by
    rw [List.getD_eq_getElem?_getD, List.getElem?_eq_getElem hk]; rfl⟩
  generalize hN : l.length = N at *
  have h1 : ((N : Int) != (N : Int)) = false := by simp
  clear hN
  go_enter Tryd.func18, Tryd.ntmps18
  go_upto_region 3 with fail
  clear h1
  go_wp2_with fail
  go_loopw [5] (fun i wr => ∃ k : Nat, k ≤ N ∧ i = .int .i64 k ∧ Below w.heap.size w wr) (fun i _ => N - (intOf i).toNat)
  case atStart => exact ⟨0, by omega, rfl, by go_grown⟩
  case round =>
    obtain ⟨k, hk, rfl, hX⟩ := hrel
    by_cases hlt : k < N
    · obtain ⟨hne, hv⟩ := HL.out k hlt
      obtain ⟨g, o, rfl, hg, hc⟩ := HA.out hne
      obtain ⟨g', o', rfl, hg', hc'⟩ := HB.out hne
      have c0 := (hX.cell (p := ⟨g, o + k, none⟩) hg).trans (hc k _ hv)
      have c1 := (hX.cell (p := ⟨g', o' + k, none⟩) hg').trans (hc' k _ hv)
      have i0 : 0 ≤ (k : Int) ∧ (k : Int) < (N : Int) := by omega
      have i1 : (0 : Int) ≤ (k : Int) := by omega
      have i2 : (k : Int) < (N : Int) := by omega
      clear hc hc' hv hne HA HB HL
      generalize l.getD k 0 = z at *
      have hz : (z != z) = false := by simp
      go_upto_region 6 with fail
      go_region
      go_wp2_with fail
      go_roundw
      case rel => exact ⟨k + 1, by omega, by go_num, hX.trans ⟨rfl, rfl, rfl, Nat.le_refl _, fun _ _ => rfl⟩⟩
      case measure => simp [intOf]; omega
    · obtain rfl : k = N := by omega
      have i2 : ¬ (k : Int) < (k : Int) := by omega
      clear HA HB HL
      go_wp2_with fail
      go_ret
      exact ⟨rfl, hX⟩
end Go.Proofs.YtcabcmlnmpfhkaaDoor.sea
