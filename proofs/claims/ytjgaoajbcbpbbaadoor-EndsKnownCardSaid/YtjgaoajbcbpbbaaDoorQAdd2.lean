/- The reference's sum of two numbers of unlike signs; the sum as a whole. -/
import Derived.Test.YtjgaoajbcbpbbaaDoorQAdd
namespace Go.Proofs.YtjgaoajbcbpbbaaDoor
open Go.RowKit

def SubInv (ps qs os : List Nat) (c : Nat) : Prop := valD os + 10 ^ os.length * valD (ps.drop os.length) + valD qs = valD ps + 10 ^ os.length * (c + valD (qs.drop os.length)) ∧ dig10 os ∧ c ≤ 1
theorem SubInv.start (ps qs : List Nat) : SubInv ps qs [] 0 := ⟨by simp [valD], dig10_nil, by omega⟩
theorem sub_step {o P A B x y c c' d V Q : Nat} (h : o + P * (x + 10 * A) + Q = V + P * (c + (y + 10 * B))) (hd : d + y + c = x + 10 * c') : (o + P * d) + P * 10 * A + Q = V + P * 10 * (c' + B) := by
  have e1 : P * 10 * A = P * (10 * A) := Nat.mul_assoc _ _ _
  have e2 : P * 10 * (c' + B) = P * (10 * c' + 10 * B) := by rw [Nat.mul_assoc, Nat.mul_add]
  rw [e1, e2]
  have e3 : P * (d + y + c) = P * (x + 10 * c') := by rw [hd]
  simp only [Nat.mul_add] at *
  omega
theorem SubInv.step {ps qs os : List Nat} {c c' d : Nat} (h : SubInv ps qs os c) (hd : d + qs.getD os.length 0 + c = ps.getD os.length 0 + 10 * c') (hc : c' ≤ 1) (hd9 : d < 10) : SubInv ps qs (os ++ [d]) c' := by
  obtain ⟨h1, h2, h3⟩ := h
  refine ⟨?_, dig10_snoc h2 hd9, hc⟩
  rw [valD_drop ps, valD_drop qs] at h1
  have := sub_step h1 hd
  rw [valD_snoc, List.length_append, List.length_cons, List.length_nil, Nat.zero_add, Nat.pow_succ]
  exact this
theorem SubInv.done {ps qs os : List Nat} {c : Nat} (h : SubInv ps qs os c) (hp : os.length = ps.length) (hq : qs.length ≤ ps.length) (hle : valD qs ≤ valD ps) : valD os = valD ps - valD qs ∧ dig10 os := by
  obtain ⟨h1, h2, h3⟩ := h
  refine ⟨?_, h2⟩
  rw [hp, List.drop_length, List.drop_of_length_le hq] at h1
  simp only [valD, Nat.add_zero, Nat.mul_zero] at h1
  have h4 := valD_lt h2
  rw [hp] at h4
  rcases c with _ | c
  · omega
  · have : c = 0 := by omega
    subst this
    omega

theorem four_new' (w : World) (c0 c1 c2 c3 : Array Value) (n : Nat) (W : World)
    (hW : W = ((((w.alloc (.cells c0 60)).alloc (.cells c1 60)).alloc (.cells c2 60)).drewN n).alloc (.cells c3 60)) :
    Bk W w.heap.size c0 ∧ Bk W (w.heap.size + 1) c1 ∧ Bk W (w.heap.size + 1 + 1) c2 ∧ Bk W (w.heap.size + 1 + 1 + 1) c3 ∧ Below w.heap.size w W ∧ w.heap.size + 1 + 1 + 1 < W.heap.size := by
  obtain ⟨h0, h1, h2, h3, h4, h5⟩ := four_new w c0 c1 c2 c3 _ rfl
  subst hW
  exact ⟨h0, h1, h2, h3, ⟨h4.os, h4.tape, h4.output, h4.size, h4.block⟩, h5⟩

set_option maxHeartbeats 1600000 in
set_option maxRecDepth 100000 in
theorem add_diff (v u : Value) (n1 n2 : Bool) (ps qs : List Nat) (w : World) (hv : NR w v n1 ps) (hu : NR w u n2 qs) (hn : n1 ≠ n2) (dp : dig10 ps) (dq : dig10 qs) (tp : tidy ps) (tq : tidy qs) (hlp : ps.length ≤ 1000) (hlq : qs.length ≤ 1000) (hle : valD qs ≤ valD ps) :
    Calls Tryd.prog 51 #[v, u] w fun e w' => ∃ r, e = .returned r ∧ IsN w' r (sgv n1 (valD ps - valD qs)) ∧ Below w.heap.size w w' := by
  have hql : qs.length ≤ ps.length := by
    rcases Nat.lt_or_ge ps.length qs.length with h | h
    · have := valD_longer dp tq h; omega
    · exact h
  obtain ⟨A, c, rfl, hA⟩ := hv.open
  obtain ⟨A', c', rfl, hA'⟩ := hu.open
  obtain ⟨i0, hi, hz0, hz1, hz2⟩ := info_parts infoU8
  have hnb : (n1 == n2) = false := by rw [beq_eq_false_iff_ne]; exact hn
  have HL : Hid (∀ W, Below w.heap.size w W → Calls Tryd.prog 64 #[.slice A ps.length c, .slice A' qs.length c'] W fun e w' => e = .returned (.bool false) ∧ ∃ n, w' = W.drewN n) := by
    intro W hW
    have := less_any _ _ ps qs W (hA.below hW (Nat.le_refl _)) (hA'.below hW (Nat.le_refl _)) dp dq tp tq (by omega) (by omega)
    rw [show decide (valD ps < valD qs) = false by simp; omega] at this
    exact this
  go_enter Tryd.func51, Tryd.ntmps51
  go_upto_region 16 with (go_at_call 64; refine (HL.out _ (by go_grown)).mono ?_; rintro e w' ⟨rfl, n0, rfl⟩)
  obtain ⟨b0, b1, b2, b3, hb, hs⟩ := four_new' w #[Value.bool n1, Value.slice A ps.length c] #[Value.bool n2, Value.slice A' qs.length c'] #[Value.bool false, Value.slice none 0 0] #[Value.bool n1, Value.slice none 0 0] n0 _ rfl
  generalize ((((w.alloc (Obj.cells #[Value.bool n1, Value.slice A ps.length c] 60)).alloc (Obj.cells #[Value.bool n2, Value.slice A' qs.length c'] 60)).alloc (Obj.cells #[Value.bool false, Value.slice none 0 0] 60)).drewN n0).alloc (Obj.cells #[Value.bool n1, Value.slice none 0 0] 60) = W at *
  generalize e3 : w.heap.size + 1 + 1 + 1 = g3 at *
  generalize e2 : w.heap.size + 1 + 1 = g2 at *
  generalize e1 : w.heap.size + 1 = g1 at *
  have l1 : w.heap.size < g1 := by omega
  have l2 : g1 < g2 := by omega
  have l3 : g2 < g3 := by omega
  clear e1 e2 e3 hv hu HL hn hnb
  go_loopw [10, 11] (fun x y wr => ∃ (os : List Nat) (cc : Nat) (v : Value), x = .int .i64 cc ∧ y = .int .i64 os.length ∧ SubInv ps qs os cc ∧ cc ≤ 1 ∧ os.length ≤ ps.length ∧
      Bk wr w.heap.size #[.bool n1, .slice A ps.length c] ∧ Bk wr g1 #[.bool n2, .slice A' qs.length c'] ∧ Bk wr g2 #[.bool false, .slice none 0 0] ∧ Bk wr g3 #[.bool n1, v] ∧
      wr.ownsRow (g3 + 1) 5 1 v os.length (cellsD os) ∧ g3 + 1 ≤ wr.heap.size ∧ Below w.heap.size w wr)
    (fun _ y _ => ps.length - (intOf y).toNat)
  case atStart => exact ⟨[], 0, _, rfl, rfl, SubInv.start _ _, by omega, by simp, b0, b1, b2, b3, World.ownsRow_nil _ _ _ _, hs, hb⟩
  case round =>
    obtain ⟨os, cc, v, rfl, rfl, hin, hc1, hol, r0, r1, r2, r3, hown, hs1, hbr⟩ := hrel
    clear b0 b1 b2 b3 hb hs
    have f0 := r0.cell 1
    have f1 := r1.cell 1
    have f2 := r3.cell 1
    simp at f0 f1 f2
    by_cases hgo : os.length < ps.length
    · obtain ⟨x, hx⟩ : ∃ x, x = ps.getD os.length 0 := ⟨_, rfl⟩
      obtain ⟨y, hy⟩ : ∃ y, y = qs.getD os.length 0 := ⟨_, rfl⟩
      have hx9 : x < 10 := by rw [hx]; exact dig10_at dp _
      have hy9 : y < 10 := by rw [hy]; exact dig10_at dq _
      have HX : Hid (∀ n, Calls Tryd.prog 63 #[.slice A ps.length c, .int .i64 os.length] (wr.drewN n) fun e w'' => e = .returned (.int .i64 x) ∧ ∃ m, w'' = wr.drewN m) :=
        fun n => by rw [hx]; exact quiet_l (digit_any _ ps _ _ (hA.below (below_drewN hbr n) (Nat.le_refl _)) (by omega) dp)
      have HY : Hid (∀ n, Calls Tryd.prog 63 #[.slice A' qs.length c', .int .i64 os.length] (wr.drewN n) fun e w'' => e = .returned (.int .i64 y) ∧ ∃ m, w'' = wr.drewN m) :=
        fun n => by rw [hy]; exact quiet_l (digit_any _ qs _ _ (hA'.below (below_drewN hbr n) (Nat.le_refl _)) (by omega) dq)
      have HI : Hid (∀ d c', d + y + cc = x + 10 * c' → c' ≤ 1 → d < 10 → SubInv ps qs (os ++ [d]) c') := fun d c' h1 h2 h3 => hin.step (by rw [← hx, ← hy]; exact h1) h2 h3
      have v1 : IntKind.i64.wrap ((x : Int) - y) = (x : Int) - y := IntWalk.i64_in _ ⟨by omega, by omega⟩
      obtain ⟨s, hsd⟩ : ∃ s : Int, s = (x : Int) - y - cc := ⟨_, rfl⟩
      have v2 : IntKind.i64.wrap ((x : Int) - y - cc) = s := by rw [IntWalk.i64_in _ ⟨by omega, by omega⟩]; omega
      have hs9 : s ≤ 9 := by omega
      have hs0 : -10 ≤ s := by omega
      have HSD := Lib.hid hsd
      clear hin hx hy hol hsd
      by_cases hneg : s < 0
      · obtain ⟨d, hd⟩ : ∃ d : Nat, (d : Int) = s + 10 := ⟨(s + 10).toNat, by omega⟩
        have hd9 : d < 10 := by omega
        have HS : Hid (SubInv ps qs (os ++ [d]) 1) := HI.out d 1 (by have := HSD.out; omega) (by omega) hd9
        have v3 : s + 10 = (d : Int) := hd.symm
        clear HI hd
        go_wp2_with fail
        go_quiet ((go_at_call 63; first | ((with_reducible exact HX.out _)) | ((with_reducible exact HY.out _))))
        have p0 := r0.drewN nq
        have p1 := r1.drewN nq
        have p2 := r2.drewN nq
        have p3 := r3.drewN nq
        have pown : (wr.drewN nq).ownsRow (g3 + 1) 5 1 v os.length (cellsD os) := hown
        have pb := below_drewN hbr nq
        have ps1 : g3 + 1 ≤ (wr.drewN nq).heap.size := hs1
        clear r0 r1 r2 r3 hown hbr hs1 f0 f1 f2
        generalize wr.drewN nq = wq at *
        have f2 := p3.cell 1
        simp at f2
        go_wp2_with (at_builtin; refine wpList_append_own _ rfl _ _ 58 rfl (g3 + 1) 5 i0 (.int .u8 0) 1 1 Tryd.underlying58 hi hz0 hz1 hz2 rfl (by decide) _ _ _ rfl (pown.alloc _) ⟨wq.heap.size, 0, none⟩ 1 1 [.int .u8 (d : Int)] rfl rfl ?c1 ?c2 ?c3 ?c4 ?c5 ?_)
        case c1 => exact cell_one_new _ _ _
        case c2 => intro u hu; rw [List.mem_singleton.1 hu]; rfl
        case c3 => unfold maxLen; omega
        case c4 => omega
        case c5 => simp; omega
        intro v' w1 hown1 hg1 _
        rw [← cellsD_snoc] at hown1
        have hlo' : (os ++ [d]).length = os.length + 1 := by simp
        rw [← hlo'] at hown1
        have hne : ∀ g, g < g3 + 1 → some g ≠ v.ownBlock := fun g hg e => by have := (pown.lt g e.symm).1; omega
        have q0 := (p0.alloc _).grown hg1 (hne _ (by omega))
        have q1 := (p1.alloc _).grown hg1 (hne _ (by omega))
        have q2 := (p2.alloc _).grown hg1 (hne _ (by omega))
        have q3 := (p3.alloc _).grown hg1 (hne _ (by omega))
        have hb1 : Below w.heap.size w w1 := (pb.alloc (by omega) _).grown hg1 (by simp; omega) (fun k hk => by have := (pown.lt k hk).1; omega)
        have hs2 : g3 + 1 ≤ w1.heap.size := by have := hg1.size; simp at this; omega
        obtain ⟨A4, c4, rfl⟩ := (DS.of_own hown1).len
        clear pown hg1 p0 p1 p2 p3 pb f2 hne ps1
        have f2 := q3.cell 1
        have f3 := q3.frozen 1
        simp at f2
        go_wp2_with fail
        go_roundw
        case rel =>
          refine ⟨os ++ [d], 1, .slice A4 (os ++ [d]).length c4, rfl, by rw [hlo']; go_num, HS.out, by omega, by omega, q0.far (by simp; omega) _, q1.far (by simp; omega) _, q2.far (by simp; omega) _, by simpa using q3.put 1 (.slice A4 (os ++ [d]).length c4), own_setN hown1 (by simp) _, by simpa [World.setCell] using hs2, hb1.setCell (by simp; omega) _⟩
        case measure => simp [intOf]; omega
      · obtain ⟨d, rfl⟩ := Int.eq_ofNat_of_zero_le (show 0 ≤ s by omega)
        have hd9 : d < 10 := by omega
        have HS : Hid (SubInv ps qs (os ++ [d]) 0) := HI.out d 0 (by have := HSD.out; omega) (by omega) hd9
        clear HI
        go_wp2_with fail
        go_quiet ((go_at_call 63; first | ((with_reducible exact HX.out _)) | ((with_reducible exact HY.out _))))
        have p0 := r0.drewN nq
        have p1 := r1.drewN nq
        have p2 := r2.drewN nq
        have p3 := r3.drewN nq
        have pown : (wr.drewN nq).ownsRow (g3 + 1) 5 1 v os.length (cellsD os) := hown
        have pb := below_drewN hbr nq
        have ps1 : g3 + 1 ≤ (wr.drewN nq).heap.size := hs1
        clear r0 r1 r2 r3 hown hbr hs1 f0 f1 f2
        generalize wr.drewN nq = wq at *
        have f2 := p3.cell 1
        simp at f2
        go_wp2_with (at_builtin; refine wpList_append_own _ rfl _ _ 58 rfl (g3 + 1) 5 i0 (.int .u8 0) 1 1 Tryd.underlying58 hi hz0 hz1 hz2 rfl (by decide) _ _ _ rfl (pown.alloc _) ⟨wq.heap.size, 0, none⟩ 1 1 [.int .u8 (d : Int)] rfl rfl ?c1 ?c2 ?c3 ?c4 ?c5 ?_)
        case c1 => exact cell_one_new _ _ _
        case c2 => intro u hu; rw [List.mem_singleton.1 hu]; rfl
        case c3 => unfold maxLen; omega
        case c4 => omega
        case c5 => simp; omega
        intro v' w1 hown1 hg1 _
        rw [← cellsD_snoc] at hown1
        have hlo' : (os ++ [d]).length = os.length + 1 := by simp
        rw [← hlo'] at hown1
        have hne : ∀ g, g < g3 + 1 → some g ≠ v.ownBlock := fun g hg e => by have := (pown.lt g e.symm).1; omega
        have q0 := (p0.alloc _).grown hg1 (hne _ (by omega))
        have q1 := (p1.alloc _).grown hg1 (hne _ (by omega))
        have q2 := (p2.alloc _).grown hg1 (hne _ (by omega))
        have q3 := (p3.alloc _).grown hg1 (hne _ (by omega))
        have hb1 : Below w.heap.size w w1 := (pb.alloc (by omega) _).grown hg1 (by simp; omega) (fun k hk => by have := (pown.lt k hk).1; omega)
        have hs2 : g3 + 1 ≤ w1.heap.size := by have := hg1.size; simp at this; omega
        obtain ⟨A4, c4, rfl⟩ := (DS.of_own hown1).len
        clear pown hg1 p0 p1 p2 p3 pb f2 hne ps1
        have f2 := q3.cell 1
        have f3 := q3.frozen 1
        simp at f2
        go_wp2_with fail
        go_roundw
        case rel =>
          refine ⟨os ++ [d], 0, .slice A4 (os ++ [d]).length c4, rfl, by rw [hlo']; go_num, HS.out, by omega, by omega, q0.far (by simp; omega) _, q1.far (by simp; omega) _, q2.far (by simp; omega) _, by simpa using q3.put 1 (.slice A4 (os ++ [d]).length c4), own_setN hown1 (by simp) _, by simpa [World.setCell] using hs2, hb1.setCell (by simp; omega) _⟩
        case measure => simp [intOf]; omega
    · obtain ⟨hval, hd10⟩ := hin.done (by omega) hql hle
      obtain ⟨A3, c3, rfl⟩ := (DS.of_own hown).len
      have hnr : NR wr (.agg #[.bool n1, .slice A3 os.length c3]) n1 os := ⟨_, rfl, DS.of_own hown⟩
      have HV : Hid (valD os = valD ps - valD qs) := hval
      have hol2 : os.length ≤ 1000000 := by omega
      clear hval hin
      have f3 := r3.cell 0
      simp at f3
      have HB := Lib.hid hown
      clear hown
      go_wp2_with (go_at_call 44; refine (trim_any _ _ _ _ hnr hd10 hol2).mono ?_; rintro e w1 ⟨r, rfl, hr, hb1⟩; obtain ⟨b4, A4, n4, c4, rfl⟩ := id hr.form; have q2 := r2.below hb1 r2.lt; have q20 := q2.cell 0; have q21 := q2.cell 1; have q22 := q2.frozen 0; have q23 := q2.frozen 1; simp at q20 q21)
      refine bodyPost_ret (res_struct (g := g2) rfl rfl (by simpa using (q2.put 0 (.bool b4)).put 1 (.slice A4 n4 c4))) rfl ?_
      refine ⟨_, rfl, ?_, ?_⟩
      · rw [← HV.out]
        exact (hr.put q2 0 _).put (q2.put 0 (.bool b4)) 1 _
      · have := hbr.trans (hb1.mono hbr.size)
        go_grown

/-- A bound that no number of the laws comes near. -/
def lim : Nat := 10 ^ 200
theorem IsN.len {w : World} {v : Value} {z : Int} (h : IsN w v z) (hz : z.natAbs < lim) : ∃ ds, NR w v (decide (z < 0)) ds ∧ dig10 ds ∧ tidy ds ∧ valD ds = z.natAbs ∧ ds.length ≤ 200 := by
  obtain ⟨ds, h1, h2, h3, h4⟩ := h
  refine ⟨ds, h1, h2, h3, h4, tidy_len h3 ?_⟩
  rw [h4]; exact hz

theorem three_new (w : World) (c0 c1 c2 : Array Value) (W : World)
    (hW : W = ((w.alloc (.cells c0 60)).alloc (.cells c1 60)).alloc (.cells c2 60)) :
    Bk W w.heap.size c0 ∧ Bk W (w.heap.size + 1) c1 ∧ Bk W (w.heap.size + 1 + 1) c2 ∧ Below w.heap.size w W ∧ w.heap.size + 1 + 1 < W.heap.size := by
  subst hW
  refine ⟨((Bk.new w c0).alloc _).alloc _, ?_, ?_, by go_grown, by simp⟩
  · have := Bk.new (w.alloc (.cells c0 60)) c1
    simp only [World.size_alloc] at this
    exact this.alloc _
  · have := Bk.new ((w.alloc (.cells c0 60)).alloc (.cells c1 60)) c2
    simp only [World.size_alloc] at this
    exact this

set_option maxHeartbeats 1600000 in
set_option maxRecDepth 100000 in
theorem addN_any (v u : Value) (x y : Int) (w : World) (hv : IsN w v x) (hu : IsN w u y) (hx : x.natAbs < lim) (hy : y.natAbs < lim) :
    Calls Tryd.prog 51 #[v, u] w fun e w' => ∃ r, e = .returned r ∧ IsN w' r (x + y) ∧ Below w.heap.size w w' := by
  obtain ⟨ps, hp1, hp2, hp3, hp4, hp5⟩ := hv.len hx
  obtain ⟨qs, hq1, hq2, hq3, hq4, hq5⟩ := hu.len hy
  clear hx hy
  by_cases hs : decide (x < 0) = decide (y < 0)
  · have h := add_same v u (decide (x < 0)) ps qs w hp1 (by rw [hs]; exact hq1) hp2 hq2 (by omega) (by omega)
    have e : sgv (decide (x < 0)) (valD ps + valD qs) = x + y := by
      rw [hp4, hq4]
      rw [decide_eq_decide] at hs
      unfold sgv
      by_cases hx : x < 0 <;> simp [hx] <;> omega
    rw [e] at h
    exact h
  · by_cases hle : valD qs ≤ valD ps
    · have h := add_diff v u _ _ ps qs w hp1 hq1 hs hp2 hq2 hp3 hq3 (by omega) (by omega) hle
      have e : sgv (decide (x < 0)) (valD ps - valD qs) = x + y := by
        rw [hp4, hq4] at *
        rw [decide_eq_decide] at hs
        unfold sgv
        by_cases hx : x < 0 <;> simp [hx] <;> omega
      rw [e] at h
      exact h
    · obtain ⟨A, c, rfl, hA⟩ := hp1.open
      obtain ⟨A', c', rfl, hA'⟩ := hq1.open
      have e : sgv (decide (y < 0)) (valD qs - valD ps) = x + y := by
        rw [hp4, hq4] at *
        rw [decide_eq_decide] at hs
        unfold sgv
        by_cases hy : y < 0 <;> simp [hy] <;> omega
      have HL : Hid (∀ W, Below w.heap.size w W → Calls Tryd.prog 64 #[.slice A ps.length c, .slice A' qs.length c'] W fun e w' => e = .returned (.bool true) ∧ ∃ n, w' = W.drewN n) := by
        intro W hW
        have := less_any _ _ ps qs W (hA.below hW (Nat.le_refl _)) (hA'.below hW (Nat.le_refl _)) hp2 hq2 hp3 hq3 (by omega) (by omega)
        rw [show decide (valD ps < valD qs) = true by simp; omega] at this
        exact this
      have HR : Hid (∀ W, Below w.heap.size w W → Calls Tryd.prog 51 #[.agg #[.bool (decide (y < 0)), .slice A' qs.length c'], .agg #[.bool (decide (x < 0)), .slice A ps.length c]] W fun e w' => ∃ r, e = .returned r ∧ IsN w' r (x + y) ∧ Below W.heap.size W w') := by
        intro W hW
        have h := add_diff _ _ _ _ qs ps W (hq1.below hW) (hp1.below hW) (fun h => hs h.symm) hq2 hp2 hq3 hp3 (by omega) (by omega) (by omega)
        rw [e] at h
        exact h
      have hnb : (decide (x < 0) == decide (y < 0)) = false := by rw [beq_eq_false_iff_ne]; exact hs
      clear hle hs e hv hu hp1 hq1
      generalize decide (x < 0) = n1 at *
      generalize decide (y < 0) = n2 at *
      go_enter Tryd.func51, Tryd.ntmps51
      go_upto_region 12 with (go_at_call 64; refine (HL.out _ (by go_grown)).mono ?_; rintro e w' ⟨rfl, n0, rfl⟩)
      obtain ⟨b0, b1, b2, hb, hsz⟩ := three_new w #[Value.bool n1, Value.slice A ps.length c] #[Value.bool n2, Value.slice A' qs.length c'] #[Value.bool false, Value.slice none 0 0] _ rfl
      have b0 := b0.drewN n0
      have b1 := b1.drewN n0
      have b2 := b2.drewN n0
      have hb := below_drewN hb n0
      generalize (((w.alloc (Obj.cells #[Value.bool n1, Value.slice A ps.length c] 60)).alloc (Obj.cells #[Value.bool n2, Value.slice A' qs.length c'] 60)).alloc (Obj.cells #[Value.bool false, Value.slice none 0 0] 60)).drewN n0 = W at *
      generalize e2 : w.heap.size + 1 + 1 = g2 at *
      generalize e1 : w.heap.size + 1 = g1 at *
      have l1 : w.heap.size < g1 := by omega
      have l2 : g1 < g2 := by omega
      clear e1 e2
      have f0 := b0.cell 0
      have f1 := b0.cell 1
      have f2 := b1.cell 0
      have f3 := b1.cell 1
      simp at f0 f1 f2 f3
      go_wp2_with (go_at_call 51; refine (HR.out _ hb).mono ?_; rintro e w1 ⟨r, rfl, hr, hb1⟩; obtain ⟨b4, A4, n4, c4, rfl⟩ := id hr.form; have q2 := b2.below hb1 b2.lt; have q20 := q2.cell 0; have q21 := q2.cell 1; have q22 := q2.frozen 0; have q23 := q2.frozen 1; simp at q20 q21)
      refine bodyPost_ret (res_struct (g := g2) rfl rfl (by simpa using (q2.put 0 (.bool b4)).put 1 (.slice A4 n4 c4))) rfl ?_
      refine ⟨_, rfl, (hr.put q2 0 _).put (q2.put 0 (.bool b4)) 1 _, ?_⟩
      have := hb.trans (hb1.mono hb.size)
      go_grown
end Go.Proofs.YtjgaoajbcbpbbaaDoor
