/- The reference's order of sizes, and its sum. -/
import Derived.Test.YtjgaoajbcbpbbaaDoorQRef2
import Derived.Deep.QuietTactic
import Derived.BigQuiet
namespace Go.Proofs.YtjgaoajbcbpbbaaDoor
open Go.RowKit

theorem DS.len {w : World} {B : Nat} {v : Value} {ds : List Nat} (h : DS w B v ds) : ∃ A c, v = .slice A ds.length c := by
  obtain ⟨A, c, hv, _⟩ := h; exact ⟨A, c, hv⟩

set_option maxHeartbeats 800000 in
set_option maxRecDepth 100000 in
theorem less_any (v u : Value) (ps qs : List Nat) (w : World) (ha : DS w w.heap.size v ps) (hb : DS w w.heap.size u qs) (da : dig10 ps) (db : dig10 qs) (ta : tidy ps) (tb : tidy qs) (hla : ps.length ≤ 1000000) (hlb : qs.length ≤ 1000000) :
    Calls Tryd.prog 64 #[v, u] w fun e w' => e = .returned (.bool (decide (valD ps < valD qs))) ∧ ∃ n, w' = w.drewN n := by
  obtain ⟨A, c, rfl, hc, -, hca⟩ := ha.old
  obtain ⟨A', c', rfl, hc', -, hcb⟩ := hb.old
  by_cases hl : ps.length = qs.length
  · have t1 : ((ps.length : Int) != (qs.length : Int)) = false := by rw [bne_eq_false_iff_eq, hl]
    have HD : Hid (valD (ps.drop ps.length) = valD (qs.drop ps.length)) := by
      show valD _ = valD _
      rw [List.drop_length, hl, List.drop_length]
    have HL := Lib.hid hl
    have HA := Lib.hid hca
    have HB := Lib.hid hcb
    clear hl hca hcb
    go_enter Tryd.func64, Tryd.ntmps64
    go_wp2_with fail
    go_loopw [5] (fun i wr => ∃ (k n : Nat), i = .int .i64 ((k : Int) - 1) ∧ k ≤ ps.length ∧ Hid (valD (ps.drop k) = valD (qs.drop k)) ∧ wr = w.drewN n) (fun i _ => (intOf i + 1).toNat)
    case atStart => exact ⟨ps.length, 0, rfl, Nat.le_refl _, HD, rfl⟩
    case round =>
      obtain ⟨k, n, rfl, hk, hv, rfl⟩ := hrel
      clear HD
      rcases k with _ | j
      · have HR : Hid (decide (valD ps < valD qs) = false) := by
          have h := hv.out
          simp only [List.drop_zero] at h
          show decide _ = false
          rw [h]; simp
        clear hv
        go_wp2_with fail
        go_ret
        exact ⟨ret_b HR.out.symm, _, rfl⟩
      · have hbl : j < qs.length := by rw [← HL.out]; omega
        obtain ⟨b, o, rfl, hbb, hcell⟩ := HA.out (by omega)
        obtain ⟨b', o', rfl, hbb', hcell'⟩ := HB.out (by omega)
        have f1 := hcell j (by omega)
        have f2 := hcell' j hbl
        have x10 := dig10_at da j
        have y10 := dig10_at db j
        have e1 : (((j + 1 : Nat) : Int) - 1) = (j : Int) := by omega
        rw [e1]
        have hla := less_at da db (k := j) (by omega) hbl hv.out
        have hdr := drop_at (k := j) hv.out
        clear e1 hcell hcell' hv
        generalize ps.getD j 0 = x at *
        generalize qs.getD j 0 = y at *
        by_cases hxy : x = y
        · have HV : Hid (valD (ps.drop j) = valD (qs.drop j)) := hdr hxy
          subst hxy
          clear hdr hla
          go_wp2_with fail
          go_quiet (fail)
          go_wp2_with fail
          go_roundw
          case rel => exact ⟨j, n + nq, rfl, by omega, HV, by simp⟩
          case measure => simp [intOf]
        · have t2 : ((x : Int) != (y : Int)) = true := by rw [bne_iff_ne]; omega
          have HR : Hid (decide (valD ps < valD qs) = decide (x < y)) := by
            show decide _ = decide _
            rw [decide_eq_decide, hla hxy]
          clear hdr hla hxy
          go_wp2_with fail
          go_quiet (fail)
          go_wp2_with fail
          go_quiet (fail)
          go_wp2_with fail
          go_ret
          exact ⟨ret_b HR.out.symm, _, by rw [World.drewN_drewN, World.drewN_drewN]⟩
  · have t1 : ((ps.length : Int) != (qs.length : Int)) = true := by rw [bne_iff_ne]; omega
    have HR : Hid (decide (valD ps < valD qs) = decide (ps.length < qs.length)) := by
      show decide _ = decide _
      rw [decide_eq_decide]
      constructor
      · intro h
        rcases Nat.lt_or_ge ps.length qs.length with h1 | h1
        · omega
        · have := valD_longer db ta (show qs.length < ps.length by omega)
          omega
      · intro h; exact valD_longer da tb (by omega)
    clear hl hca hcb
    go_enter Tryd.func64, Tryd.ntmps64
    go_wp2_with fail
    go_ret
    exact ⟨ret_b HR.out.symm, 0, rfl⟩
end Go.Proofs.YtjgaoajbcbpbbaaDoor
