/- The reference's sum. -/
import Derived.Test.YtjgaoajbcbpbbaaDoorQLess
namespace Go.Proofs.YtjgaoajbcbpbbaaDoor
open Go.RowKit

/-- What holds of the digits of a sum before each round. -/
def SumInv (N : Nat) (ps qs os : List Nat) (c : Nat) : Prop := valD os + 10 ^ os.length * (c + valD (ps.drop os.length) + valD (qs.drop os.length)) = N ∧ dig10 os ∧ c ≤ 1
theorem SumInv.step {N : Nat} {ps qs os : List Nat} {c s : Nat} (h : SumInv N ps qs os c) (hp : dig10 ps) (hq : dig10 qs) (hs : s = ps.getD os.length 0 + qs.getD os.length 0 + c) : SumInv N ps qs (os ++ [s % 10]) (s / 10) := by
  obtain ⟨h1, h2, h3⟩ := h
  have a1 := dig10_at hp os.length
  have a2 := dig10_at hq os.length
  refine ⟨?_, dig10_snoc h2 (Nat.mod_lt _ (by omega)), by omega⟩
  rw [valD_drop ps, valD_drop qs] at h1
  have := sum_step h1 hs
  rw [valD_snoc, List.length_append, List.length_cons, List.length_nil, Nat.zero_add, Nat.pow_succ]
  exact this

/-- The number v, written out: what its cells are. -/
theorem NR.open {w : World} {v : Value} {neg : Bool} {ds : List Nat} (h : NR w v neg ds) : ∃ A c, v = .agg #[.bool neg, .slice A ds.length c] ∧ DS w w.heap.size (.slice A ds.length c) ds := by
  obtain ⟨u, rfl, hu⟩ := h
  obtain ⟨A, c, rfl⟩ := hu.len
  exact ⟨A, c, rfl, hu⟩

theorem SumInv.start (ps qs : List Nat) : SumInv (valD ps + valD qs) ps qs [] 0 := ⟨by simp [valD], dig10_nil, by omega⟩
theorem SumInv.done {N : Nat} {ps qs os : List Nat} (h : SumInv N ps qs os 0) (hp : ps.length ≤ os.length) (hq : qs.length ≤ os.length) : valD os = N ∧ dig10 os := by
  obtain ⟨h1, h2, _⟩ := h
  rw [List.drop_of_length_le hp, List.drop_of_length_le hq] at h1
  simp only [valD, Nat.add_zero, Nat.mul_zero] at h1
  exact ⟨h1, h2⟩

/-- Four new blocks, and nothing else turned. -/
theorem four_new (w : World) (c0 c1 c2 c3 : Array Value) (W : World)
    (hW : W = (((w.alloc (.cells c0 60)).alloc (.cells c1 60)).alloc (.cells c2 60)).alloc (.cells c3 60)) :
    Bk W w.heap.size c0 ∧ Bk W (w.heap.size + 1) c1 ∧ Bk W (w.heap.size + 1 + 1) c2 ∧ Bk W (w.heap.size + 1 + 1 + 1) c3 ∧ Below w.heap.size w W ∧ w.heap.size + 1 + 1 + 1 < W.heap.size := by
  subst hW
  refine ⟨(((Bk.new w c0).alloc _).alloc _).alloc _, ?_, ?_, ?_, by go_grown, by simp⟩
  · have := Bk.new (w.alloc (.cells c0 60)) c1
    simp only [World.size_alloc] at this
    exact (this.alloc _).alloc _
  · have := Bk.new ((w.alloc (.cells c0 60)).alloc (.cells c1 60)) c2
    simp only [World.size_alloc] at this
    exact this.alloc _
  · have := Bk.new (((w.alloc (.cells c0 60)).alloc (.cells c1 60)).alloc (.cells c2 60)) c3
    simp only [World.size_alloc] at this
    exact this
theorem quiet_l {P : Program} {f : FuncId} {args : Array Value} {w : World} {n : Nat} {v : Value}
    (h : Calls P f args (w.drewN n) fun e w' => e = .returned v ∧ w.drewN n = w') : Calls P f args (w.drewN n) fun e w'' => e = .returned v ∧ ∃ m, w'' = w.drewN m :=
  h.mono fun _ _ ⟨he, hm⟩ => ⟨he, n, hm.symm⟩

set_option maxHeartbeats 1600000 in
set_option maxRecDepth 100000 in
theorem add_same (v u : Value) (neg : Bool) (ps qs : List Nat) (w : World) (hv : NR w v neg ps) (hu : NR w u neg qs) (dp : dig10 ps) (dq : dig10 qs) (hlp : ps.length ≤ 1000) (hlq : qs.length ≤ 1000) :
    Calls Tryd.prog 51 #[v, u] w fun e w' => ∃ r, e = .returned r ∧ IsN w' r (sgv neg (valD ps + valD qs)) ∧ Below w.heap.size w w' := by
  obtain ⟨A, c, rfl, hA⟩ := hv.open
  obtain ⟨A', c', rfl, hA'⟩ := hu.open
  obtain ⟨i0, hi, hz0, hz1, hz2⟩ := info_parts infoU8
  go_enter Tryd.func51, Tryd.ntmps51
  go_upto_region 5 with fail
  obtain ⟨b0, b1, b2, b3, hb, hs⟩ := four_new w #[Value.bool neg, Value.slice A ps.length c] #[Value.bool neg, Value.slice A' qs.length c'] #[Value.bool false, Value.slice none 0 0] #[Value.bool neg, Value.slice none 0 0] _ rfl
  generalize (((w.alloc (Obj.cells #[Value.bool neg, Value.slice A ps.length c] 60)).alloc (Obj.cells #[Value.bool neg, Value.slice A' qs.length c'] 60)).alloc (Obj.cells #[Value.bool false, Value.slice none 0 0] 60)).alloc (Obj.cells #[Value.bool neg, Value.slice none 0 0] 60) = W at *
  generalize e3 : w.heap.size + 1 + 1 + 1 = g3 at *
  generalize e2 : w.heap.size + 1 + 1 = g2 at *
  generalize e1 : w.heap.size + 1 = g1 at *
  have l1 : w.heap.size < g1 := by omega
  have l2 : g1 < g2 := by omega
  have l3 : g2 < g3 := by omega
  clear e1 e2 e3 hv hu
  obtain ⟨M, hM⟩ : ∃ M, M = max ps.length qs.length := ⟨_, rfl⟩
  have hMp : ps.length ≤ M := by omega
  have hMq : qs.length ≤ M := by omega
  have hM1 : M ≤ 1000 := by omega
  clear hM
  go_loopw [6, 7] (fun x y wr => ∃ (os : List Nat) (cc : Nat) (v : Value), x = .int .i64 cc ∧ y = .int .i64 os.length ∧ SumInv (valD ps + valD qs) ps qs os cc ∧ cc ≤ 1 ∧ os.length ≤ M + 1 ∧ (cc = 1 → os.length ≤ M) ∧
      Bk wr w.heap.size #[.bool neg, .slice A ps.length c] ∧ Bk wr g1 #[.bool neg, .slice A' qs.length c'] ∧ Bk wr g2 #[.bool false, .slice none 0 0] ∧ Bk wr g3 #[.bool neg, v] ∧
      wr.ownsRow (g3 + 1) 5 1 v os.length (cellsD os) ∧ g3 + 1 ≤ wr.heap.size ∧ Below w.heap.size w wr)
    (fun _ y _ => M + 1 - (intOf y).toNat)
  case atStart => exact ⟨[], 0, _, rfl, rfl, SumInv.start _ _, by omega, by simp, by omega, b0, b1, b2, b3, World.ownsRow_nil _ _ _ _, hs, hb⟩
  case round =>
    obtain ⟨os, cc, v, rfl, rfl, hin, hc1, hol, hoc, r0, r1, r2, r3, hown, hs1, hbr⟩ := hrel
    clear b0 b1 b2 b3 hb hs
    have f0 := r0.cell 1
    have f1 := r1.cell 1
    have f2 := r3.cell 1
    simp at f0 f1 f2
    by_cases hgo : os.length < ps.length ∨ os.length < qs.length ∨ 0 < cc
    · have hlo : os.length ≤ M := by omega
      obtain ⟨x, hx⟩ : ∃ x, x = ps.getD os.length 0 := ⟨_, rfl⟩
      obtain ⟨y, hy⟩ : ∃ y, y = qs.getD os.length 0 := ⟨_, rfl⟩
      have hx9 : x < 10 := by rw [hx]; exact dig10_at dp _
      have hy9 : y < 10 := by rw [hy]; exact dig10_at dq _
      obtain ⟨s, hs⟩ : ∃ s, s = x + y + cc := ⟨_, rfl⟩
      have hst := hin.step dp dq (s := s) (by rw [hs, hx, hy])
      have hnc : s / 10 = 1 → os.length + 1 ≤ M := by
        intro h
        rcases Nat.lt_or_ge os.length M with h1 | h1
        · omega
        · have e1 : x = 0 := by rw [hx, List.getD_eq_getElem?_getD, List.getElem?_eq_none (by omega)]; rfl
          have e2 : y = 0 := by rw [hy, List.getD_eq_getElem?_getD, List.getElem?_eq_none (by omega)]; rfl
          omega
      have HX : Hid (∀ n, Calls Tryd.prog 63 #[.slice A ps.length c, .int .i64 os.length] (wr.drewN n) fun e w'' => e = .returned (.int .i64 x) ∧ ∃ m, w'' = wr.drewN m) :=
        fun n => by rw [hx]; exact quiet_l (digit_any _ ps _ _ (hA.below (below_drewN hbr n) (Nat.le_refl _)) (by omega) dp)
      have HY : Hid (∀ n, Calls Tryd.prog 63 #[.slice A' qs.length c', .int .i64 os.length] (wr.drewN n) fun e w'' => e = .returned (.int .i64 y) ∧ ∃ m, w'' = wr.drewN m) :=
        fun n => by rw [hy]; exact quiet_l (digit_any _ qs _ _ (hA'.below (below_drewN hbr n) (Nat.le_refl _)) (by omega) dq)
      have HS := Lib.hid hst
      have HC := Lib.hid hnc
      have v1 : IntKind.i64.wrap ((x : Int) + y) = (x : Int) + y := IntWalk.i64_in _ ⟨by omega, by omega⟩
      have v2 : IntKind.i64.wrap ((x : Int) + y + cc) = (s : Int) := by rw [IntWalk.i64_in _ ⟨by omega, by omega⟩]; omega
      have hs9 : s ≤ 19 := by omega
      clear hs
      clear hst hnc hin hx hy hoc hol
      have h3 : os.length < ps.length ∨ (ps.length ≤ os.length ∧ os.length < qs.length) ∨ (ps.length ≤ os.length ∧ qs.length ≤ os.length ∧ 1 ≤ cc) := by omega
      clear hgo
      rcases h3 with h1 | ⟨h1, h2⟩ | ⟨h1, h2, h3⟩
      all_goals
        go_wp2_with fail
        go_quiet ((go_at_call 63; first | ((with_reducible exact HX.out _)) | ((with_reducible exact HY.out _))))
        have p0 := r0.drewN nq
        have p1 := r1.drewN nq
        have p2 := r2.drewN nq
        have p3 := r3.drewN nq
        have pown : (wr.drewN nq).ownsRow (g3 + 1) 5 1 v os.length (cellsD os) := hown
        have pb := below_drewN hbr nq
        have ps1 : g3 + 1 ≤ (wr.drewN nq).heap.size := hs1
        clear r0 r1 r2 r3 hown hbr hs1 f0 f1 f2
        generalize wr.drewN nq = wq at *
        have f2 := p3.cell 1
        simp at f2
        go_wp2_with (at_builtin; refine wpList_append_own _ rfl _ _ 58 rfl (g3 + 1) 5 i0 (.int .u8 0) 1 1 Tryd.underlying58 hi hz0 hz1 hz2 rfl (by decide) _ _ _ rfl (pown.alloc _) ⟨wq.heap.size, 0, none⟩ 1 1 [.int .u8 ((s : Int) % 10)] rfl rfl ?c1 ?c2 ?c3 ?c4 ?c5 ?_)
        case c1 => exact cell_one_new _ _ _
        case c2 => intro u hu; rw [List.mem_singleton.1 hu]; rfl
        case c3 => unfold maxLen; omega
        case c4 => omega
        case c5 => simp; omega
        intro v' w1 hown1 hg1 _
        rw [show ((s : Int) % 10) = ((s % 10 : Nat) : Int) by omega, ← cellsD_snoc] at hown1
        have hlo' : (os ++ [s % 10]).length = os.length + 1 := by simp
        rw [← hlo'] at hown1
        have hne : ∀ g, g < g3 + 1 → some g ≠ v.ownBlock := fun g hg e => by have := (pown.lt g e.symm).1; omega
        have q0 := (p0.alloc _).grown hg1 (hne _ (by omega))
        have q1 := (p1.alloc _).grown hg1 (hne _ (by omega))
        have q2 := (p2.alloc _).grown hg1 (hne _ (by omega))
        have q3 := (p3.alloc _).grown hg1 (hne _ (by omega))
        have hb1 : Below w.heap.size w w1 := (pb.alloc (by omega) _).grown hg1 (by simp; omega) (fun k hk => by have := (pown.lt k hk).1; omega)
        have hs2 : g3 + 1 ≤ w1.heap.size := by have := hg1.size; simp at this; omega
        obtain ⟨A4, c4, rfl⟩ := (DS.of_own hown1).len
        clear pown hg1 p0 p1 p2 p3 pb f2 hne ps1
        have f2 := q3.cell 1
        have f3 := q3.frozen 1
        simp at f2
        go_wp2_with fail
        go_roundw
        case rel =>
          refine ⟨os ++ [s % 10], s / 10, .slice A4 (os ++ [s % 10]).length c4, by first | rfl | go_num, by rw [hlo']; go_num, HS.out, by omega, by omega, fun h => by have := HC.out h; omega, q0.far (by simp; omega) _, q1.far (by simp; omega) _, q2.far (by simp; omega) _, by simpa using q3.put 1 (.slice A4 (os ++ [s % 10]).length c4), own_setN hown1 (by simp) _, by simpa [World.setCell] using hs2, hb1.setCell (by simp; omega) _⟩
        case measure => simp [intOf]; omega
    · have hx1 : ps.length ≤ os.length := by omega
      have hx2 : qs.length ≤ os.length := by omega
      have hx3 : cc = 0 := by omega
      subst hx3
      obtain ⟨hval, hd10⟩ := hin.done hx1 hx2
      obtain ⟨A3, c3, rfl⟩ := (DS.of_own hown).len
      have hnr : NR wr (.agg #[.bool neg, .slice A3 os.length c3]) neg os := ⟨_, rfl, DS.of_own hown⟩
      have HV : Hid (valD os = valD ps + valD qs) := hval
      clear hval hin hgo hoc
      have f3 := r3.cell 0
      simp at f3
      have HB := Lib.hid hown
      clear hown
      go_wp2_with (go_at_call 44; refine (trim_any _ _ _ _ hnr hd10 (by omega)).mono ?_; rintro e w1 ⟨r, rfl, hr, hb1⟩; obtain ⟨b4, A4, n4, c4, rfl⟩ := id hr.form; have q2 := r2.below hb1 r2.lt; have q20 := q2.cell 0; have q21 := q2.cell 1; have q22 := q2.frozen 0; have q23 := q2.frozen 1; simp at q20 q21)
      refine bodyPost_ret (res_struct (g := g2) rfl rfl (by simpa using (q2.put 0 (.bool b4)).put 1 (.slice A4 n4 c4))) rfl ?_
      refine ⟨_, rfl, ?_, ?_⟩
      · rw [← HV.out]
        exact (hr.put q2 0 _).put (q2.put 0 (.bool b4)) 1 _
      · have := hbr.trans (hb1.mono hbr.size)
        go_grown
end Go.Proofs.YtjgaoajbcbpbbaaDoor
