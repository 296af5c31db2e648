/- The reference's numbers: Of, and what an appended row of digits reads as. -/
import Derived.Test.YtjgaoajbcbpbbaaDoorQRef
namespace Go.Proofs.YtjgaoajbcbpbbaaDoor
open Go.RowKit

def cellsD (ds : List Nat) : List Value := ds.map fun d => Value.int .u8 ((d : Nat) : Int)
theorem cellsD_snoc (ds : List Nat) (d : Nat) : cellsD (ds ++ [d]) = cellsD ds ++ [Value.int .u8 (d : Int)] := by simp [cellsD]
theorem cellsD_len (ds : List Nat) : (cellsD ds).length = ds.length := by simp [cellsD]
theorem DS.of_own {w : World} {base : Nat} {v : Value} {ds : List Nat} (h : w.ownsRow base 5 1 v ds.length (cellsD ds)) : DS w w.heap.size v ds := by
  rcases h.2 with ⟨rfl, h0⟩ | ⟨g, cap, cur, rfl, hg, hh, hn, hc, hs, ht⟩
  · have : ds = [] := List.eq_nil_of_length_eq_zero h0
    subst this; exact DS.nil _ _
  · refine ⟨some ⟨g, 0, none⟩, cap, rfl, hn, hc, fun _ => ⟨g, 0, cur, _, rfl, ?_, hh, fun i hi => ?_⟩⟩
    · rcases Nat.lt_or_ge g w.heap.size with h' | h'
      · exact h'
      · rw [Array.getElem?_eq_none h'] at hh; cases hh
    · rw [Nat.zero_add]
      have h1 : (cur.toList.take (ds.length * 1))[i]? = (cellsD ds)[i]? := by rw [ht]
      rw [List.getElem?_take_of_lt (by omega), Array.getElem?_toList] at h1
      rw [h1]
      simp [cellsD, List.getElem?_map, List.getD_eq_getElem?_getD, List.getElem?_eq_getElem hi]

theorem own_setN {w : World} {base : Nat} {e : TypeId} {size n : Nat} {v : Value} {xs : List Value} (h : w.ownsRow base e size v n xs) {a : Addr} (ha : a.block < base) (u : Value) : (w.setCell a u).ownsRow base e size v n xs := ownsRow_setCell_below h ha u
theorem infoU8 : (Tryd.prog.info? 5).map (fun i => (i.zero, i.size, i.bytes)) = some (some (.int .u8 0), 1, 1) := by kernel_rfl

theorem pow_bound {k m n : Nat} (h : 10 ^ k * m ≤ n) (hm : 1 ≤ m) (hn : n < 10 ^ 19) : k ≤ 18 := by
  rcases Nat.lt_or_ge 18 k with h1 | h1
  · have h2 : 10 ^ 19 ≤ 10 ^ k := Nat.pow_le_pow_right (by omega) h1
    have h3 : 10 ^ k * 1 ≤ 10 ^ k * m := Nat.mul_le_mul_left _ hm
    omega
  · exact h1
/-- One round of Of. -/
theorem of_step {os : List Nat} {m N : Nat} (h : valD os + 10 ^ os.length * m = N) : valD (os ++ [m % 10]) + 10 ^ (os ++ [m % 10]).length * (m / 10) = N := by
  rw [valD_snoc, List.length_append, List.length_cons, List.length_nil, Nat.zero_add, Nat.pow_succ, Nat.mul_assoc, Nat.add_assoc, ← Nat.mul_add]
  rw [← h]
  congr 2
  omega
theorem tidy_snoc {os : List Nat} {d : Nat} (h : d ≠ 0) : tidy (os ++ [d]) := fun x r e => by
  have := (List.append_inj' e rfl).2
  simp only [List.cons.injEq, and_true] at this
  rw [← this]; exact h

/-- What holds of the digits of Of before each round: q is what is left. -/
def OfInv (N : Nat) (neg : Bool) (q : Int) (os : List Nat) : Prop := valD os + 10 ^ os.length * q.natAbs = N ∧ dig10 os ∧ (q = 0 → tidy os) ∧ (q ≠ 0 → decide (q < 0) = neg)

set_option maxHeartbeats 800000 in
set_option maxRecDepth 100000 in
theorem of_any (n : Int) (w : World) (h0 : -9223372036854775808 ≤ n) (h1 : n ≤ 9223372036854775807) :
    Calls Tryd.prog 35 #[.int .i64 n] w fun e w' => ∃ u, e = .returned u ∧ IsN w' u n ∧ Below w.heap.size w w' := by
  obtain ⟨i0, hi, hz0, hz1, hz2⟩ := info_parts infoU8
  go_enter Tryd.func35, Tryd.ntmps35
  go_wp2_with fail
  have b0 : Bk ((w.alloc (Obj.cells #[Value.bool false, Value.slice none 0 0] 60)).alloc (Obj.cells #[Value.bool (decide (n < 0)), Value.slice none 0 0] 60)) w.heap.size #[.bool false, .slice none 0 0] := (Bk.new _ _).alloc _
  have b1 : Bk ((w.alloc (Obj.cells #[Value.bool false, Value.slice none 0 0] 60)).alloc (Obj.cells #[Value.bool (decide (n < 0)), Value.slice none 0 0] 60)) (w.heap.size + 1) #[.bool (decide (n < 0)), .slice none 0 0] := by
    have := Bk.new (w.alloc (Obj.cells #[Value.bool false, Value.slice none 0 0] 60)) #[Value.bool (decide (n < 0)), Value.slice none 0 0]
    simpa using this
  have hb : Below w.heap.size w ((w.alloc (Obj.cells #[Value.bool false, Value.slice none 0 0] 60)).alloc (Obj.cells #[Value.bool (decide (n < 0)), Value.slice none 0 0] 60)) := ((Below.refl _ _).alloc (Nat.le_refl _) _).alloc (by simp) _
  have hs : w.heap.size + 2 ≤ ((w.alloc (Obj.cells #[Value.bool false, Value.slice none 0 0] 60)).alloc (Obj.cells #[Value.bool (decide (n < 0)), Value.slice none 0 0] 60)).heap.size := by simp
  generalize (w.alloc (Obj.cells #[Value.bool false, Value.slice none 0 0] 60)).alloc (Obj.cells #[Value.bool (decide (n < 0)), Value.slice none 0 0] 60) = W at *
  generalize hneg : decide (n < 0) = neg at *
  have HN := Lib.hid hneg
  clear hneg
  go_loopw [0] (fun x wr => ∃ (m : Int) (os : List Nat) (v : Value), x = .int .i64 m ∧ -9223372036854775808 ≤ m ∧ m ≤ 9223372036854775807 ∧
      OfInv n.natAbs neg m os ∧
      Bk wr w.heap.size #[.bool false, .slice none 0 0] ∧ Bk wr (w.heap.size + 1) #[.bool neg, v] ∧ wr.ownsRow (w.heap.size + 2) 5 1 v os.length (cellsD os) ∧ w.heap.size + 2 ≤ wr.heap.size ∧ Below w.heap.size w wr)
    (fun x _ => (intOf x).natAbs)
  case atStart => exact ⟨n, [], _, rfl, h0, h1, ⟨by simp [valD], dig10_nil, fun _ => tidy_nil, fun _ => HN.out⟩, b0, b1, World.ownsRow_nil _ _ _ _, hs, hb⟩
  case round =>
    obtain ⟨m, os, v, rfl, hm0, hm1, hm, r0, r1, hown, hs1, hbr⟩ := hrel
    clear b0 b1 hb hs
    have f0 := r0.cell 0
    have f1 := r0.cell 1
    have f2 := r0.frozen 0
    have f3 := r0.frozen 1
    have f4 := r1.cell 0
    have f5 := r1.cell 1
    have f6 := r1.frozen 0
    have f7 := r1.frozen 1
    simp at f0 f1 f4 f5
    by_cases hz : m = 0
    · subst hz
      have hds := DS.of_own hown
      obtain ⟨A, c, rfl, hds1⟩ := id hds
      have HF : Hid (sgv neg (valD os) = n ∧ dig10 os ∧ tidy os ∧ (os = [] → n = 0 ∧ neg = false)) := by
        obtain ⟨e1, e2, e3, _⟩ := hm
        rw [show (0 : Int).natAbs = 0 from rfl, Nat.mul_zero, Nat.add_zero] at e1
        have hn := HN.out
        refine ⟨?_, e2, e3 rfl, ?_⟩
        · unfold sgv; rw [e1, ← hn]; by_cases hx : n < 0 <;> simp [hx] <;> omega
        · rintro rfl
          have : n = 0 := by simp [valD] at e1; omega
          exact ⟨this, by rw [← hn, this]; rfl⟩
      clear hm hds1
      go_wp2_with fail
      refine bodyPost_ret (res_struct (g := w.heap.size) rfl rfl (by simpa using (r0.put 0 (.bool neg)).put 1 (.slice A os.length c))) rfl ?_
      have hbb : Below wr.heap.size wr wr := Below.refl _ _
      refine ⟨_, rfl, ?_, ?_⟩
      · obtain ⟨e1, e2, e3, e4⟩ := HF.out
        have hnr : NR ((wr.setCell ⟨w.heap.size, 0, none⟩ (.bool neg)).setCell ⟨w.heap.size, 1, none⟩ (.slice A os.length c)) (.agg #[.bool neg, .slice A os.length c]) neg os :=
          ⟨_, rfl, DS.of_own (own_setN (own_setN hown (by simp) _) (by simp) _)⟩
        by_cases he : os = []
        · obtain ⟨rfl, rfl⟩ := e4 he
          subst he
          exact IsN.mk0 false hnr
        · rw [← e1]; exact IsN.mk hnr e2 e3 he
      · go_grown
    · obtain ⟨dd, hdd⟩ : ∃ dd, dd = m.natAbs % 10 := ⟨_, rfl⟩
      obtain ⟨qq, hqq⟩ : ∃ qq, qq = m.natAbs / 10 := ⟨_, rfl⟩
      have hd9 : dd ≤ 9 := by omega
      have hlen : os.length ≤ 18 := pow_bound (n := n.natAbs) (m := m.natAbs) (by have := hm.1; omega) (by omega) (by omega)
      have hnz : (m != 0) = true := by rw [bne_iff_ne]; exact hz
      have h3 : (m < 0 ∧ 1 ≤ dd ∧ m.tmod 10 = -(dd : Int) ∧ m.tdiv 10 = -(qq : Int)) ∨ (m < 0 ∧ 0 ≤ dd ∧ m.tmod 10 = dd ∧ m.tdiv 10 = -(qq : Int)) ∨ (0 < m ∧ m.tmod 10 = dd ∧ m.tdiv 10 = qq) := by
        by_cases hp : 0 < m
        · refine .inr (.inr ⟨hp, ?_, ?_⟩)
          · rw [Int.tmod_eq_emod_of_nonneg (by omega)]; omega
          · rw [Int.tdiv_eq_ediv_of_nonneg (by omega)]; omega
        · obtain ⟨p, rfl⟩ : ∃ p : Int, m = -p := ⟨-m, by omega⟩
          have e1 : (-p).tmod 10 = -(dd : Int) := by rw [Int.neg_tmod, Int.tmod_eq_emod_of_nonneg (by omega)]; omega
          have e2 : (-p).tdiv 10 = -(qq : Int) := by rw [Int.neg_tdiv, Int.tdiv_eq_ediv_of_nonneg (by omega)]; omega
          by_cases hd0 : dd = 0
          · exact .inr (.inl ⟨by omega, by omega, by rw [e1, hd0]; rfl, e2⟩)
          · exact .inl ⟨by omega, by omega, e1, e2⟩
      have HH : Hid (dd = m.natAbs % 10 ∧ qq = m.natAbs / 10 ∧ m ≠ 0) := ⟨hdd, hqq, hz⟩
      have hq9 : qq ≤ 922337203685477580 := by omega
      clear hdd hqq hz
      have hne : ∀ g, g < w.heap.size + 2 → some g ≠ v.ownBlock := fun g hg e => by have := (hown.lt g e.symm).1; omega
      have hrow : ∀ k, v.ownBlock = some k → w.heap.size + 2 ≤ k := fun k e => (hown.lt k e).1
      have HQ : Hid (∀ q : Int, (q = qq ∧ 0 < m) ∨ (q = -(qq : Int) ∧ m < 0) → q.natAbs < m.natAbs ∧ -9223372036854775808 ≤ q ∧ q ≤ 9223372036854775807 ∧
          OfInv n.natAbs neg q (os ++ [dd])) := by
        intro q hq
        obtain ⟨e1, e2, e3⟩ := HH.out
        have hqa : q.natAbs = m.natAbs / 10 := by omega
        have hsn : decide (q < 0) = decide (m < 0) ∨ q = 0 := by
          by_cases hq0 : q = 0
          · exact .inr hq0
          · left; rw [decide_eq_decide]; omega
        refine ⟨by omega, by omega, by omega, ?_, dig10_snoc hm.2.1 (by omega), fun h0 => tidy_snoc (by omega), fun h0 => ?_⟩
        · rw [hqa, e1]; exact of_step hm.1
        · rw [← hm.2.2.2 e3]
          rcases hsn with h | h
          · exact h
          · exact absurd h h0
      have HM := Lib.hid hne
      have HW := Lib.hid hrow
      clear hm hne hrow
      rcases h3 with ⟨hsg, hd0, ht, hq⟩ | ⟨hsg, hd0, ht, hq⟩ | ⟨hsg, ht, hq⟩
      all_goals
        have HS := Lib.hid hsg
        clear hsg hm0 hm1 HH
        go_wp2_with (at_builtin; refine wpList_append_own _ rfl _ _ 58 rfl (w.heap.size + 2) 5 i0 (.int .u8 0) 1 1 Tryd.underlying58 hi hz0 hz1 hz2 rfl (by decide) _ _ _ rfl (hown.alloc _) ⟨wr.heap.size, 0, none⟩ 1 1 [.int .u8 (dd : Int)] rfl rfl ?c1 ?c2 ?c3 ?c4 ?c5 ?_)
        case c1 => exact cell_one_new _ _ _
        case c2 => intro u hu; rw [List.mem_singleton.1 hu]; rfl
        case c3 => unfold maxLen; omega
        case c4 => omega
        case c5 => simp; omega
        intro v' w1 hown1 hg1 _
        rw [← cellsD_snoc] at hown1
        have hlo : (os ++ [dd]).length = os.length + 1 := by simp
        rw [← hlo] at hown1
        have q0 : Bk w1 w.heap.size #[.bool false, .slice none 0 0] := (r0.alloc _).grown hg1 (HM.out _ (by omega))
        have q1 : Bk w1 (w.heap.size + 1) #[.bool neg, v] := (r1.alloc _).grown hg1 (HM.out _ (by omega))
        have hb1 : Below w.heap.size w w1 := (hbr.alloc (by omega) _).grown hg1 (by simp; omega) (fun k hk => by have := HW.out k hk; omega)
        have hs2 : w.heap.size + 2 ≤ w1.heap.size := by have := hg1.size; simp at this; omega
        obtain ⟨A, c, rfl, _⟩ := id (DS.of_own hown1)
        clear hown hg1 r0 r1 hbr f0 f1 f2 f3 f4 f5 f6 f7 hlo hs1
        have f4 := q1.cell 0
        have f5 := q1.cell 1
        have f6 := q1.frozen 0
        have f7 := q1.frozen 1
        simp at f4 f5
        go_wp2_with fail
        obtain ⟨q, hqe, hqm, hq1, hq2, hqh⟩ : ∃ q : Int, ((Value.int .i64 q = .int .i64 (-(qq : Int)) ∧ m < 0) ∨ (Value.int .i64 q = .int .i64 qq ∧ 0 < m)) ∧ q.natAbs < m.natAbs ∧ -9223372036854775808 ≤ q ∧ q ≤ 9223372036854775807 ∧ OfInv n.natAbs neg q (os ++ [dd]) := by
          first
          | exact ⟨-(qq : Int), .inl ⟨rfl, HS.out⟩, HQ.out _ (.inr ⟨rfl, HS.out⟩)⟩
          | exact ⟨qq, .inr ⟨rfl, HS.out⟩, HQ.out _ (.inl ⟨rfl, HS.out⟩)⟩
        have hqv : q = -(qq : Int) ∨ q = qq := by
          rcases hqe with ⟨h, _⟩ | ⟨h, _⟩
          · left; injection h
          · right; injection h
        go_roundw
        case rel =>
          refine ⟨q, os ++ [dd], .slice A (os ++ [dd]).length c, ?_, hq1, hq2, hqh, q0.far (by simp) _, by simpa using q1.put 1 (.slice A (os ++ [dd]).length c), own_setN hown1 (by simp) _, by simpa [World.setCell] using hs2, hb1.setCell (by simp) _⟩
          rcases hqe with ⟨h, hx⟩ | ⟨h, hx⟩
          · first | exact h.symm | (exfalso; have := HS.out; omega)
          · first | exact h.symm | (exfalso; have := HS.out; omega)
        case measure =>
          simp [intOf]
          rcases hqe with ⟨h, hx⟩ | ⟨h, hx⟩
          · injection h with _ h; omega
          · injection h with _ h; omega
end Go.Proofs.YtjgaoajbcbpbbaaDoor
