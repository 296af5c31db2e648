/- The reference's reading of a text. -/
import Derived.Test.YtjgaoajbcbpbbaaDoorQText2
import Derived.Deep.RegionLaw
import Derived.Deep.AppendLies
namespace Go.Proofs.YtjgaoajbcbpbbaaDoor
open Go.RowKit

/-- Where the digits begin, and whether there is a sign. -/
def negB (l : List UInt8) : Bool := Lib.hasPrefix l [45]
def fromN (l : List UInt8) : Nat := if negB l then 1 else 0
theorem bare_drop (l : List UInt8) : bare l = l.drop (fromN l) := by
  unfold bare Lib.trimPrefix fromN negB
  by_cases h : Lib.hasPrefix l [45] = true
  · rw [if_pos h, if_pos h]; rfl
  · rw [if_neg h, if_neg h]; rfl
theorem valB_sgv (l : List UInt8) : valB l = sgv (negB l) (numFrom 0 (l.drop (fromN l))) := by
  rw [← bare_drop]; unfold valB sgv negB; rfl
theorem text_short {l : List UInt8} (h : l.length = fromN l) : isTextB l = false := by
  unfold isTextB
  rw [bare_drop, List.drop_of_length_le (by omega)]
theorem text_zero {l : List UInt8} (h1 : fromN l < l.length) (h2 : (l[fromN l]'h1).toNat = 48) (h3 : 1 < l.length) : isTextB l = false := by
  unfold isTextB
  rw [bare_drop, List.drop_eq_getElem_cons h1]
  simp only
  rw [if_pos h2, decide_eq_false_iff_not]
  intro e
  rw [e] at h3
  simp at h3
theorem text_digits {l : List UInt8} (h1 : fromN l < l.length) (h2 : (l[fromN l]'h1).toNat ≠ 48 ∨ l.length = 1) : isTextB l = (l.drop (fromN l)).all digitB := by
  unfold isTextB
  rw [bare_drop]
  rw [List.drop_eq_getElem_cons h1]
  simp only
  by_cases h3 : (l[fromN l]'h1).toNat = 48
  · have h4 : l.length = 1 := by
      rcases h2 with h | h
      · exact absurd h3 h
      · exact h
    have h5 : fromN l = 0 := by omega
    match l, h4 with
    | [c], _ =>
      have hc : c.toNat = 48 := by simpa [h5] using h3
      have : c = 48 := by rw [← UInt8.toNat_inj]; exact hc
      subst this
      rw [if_pos h3]
      simp only [h5]
      simp [digitB]
  · rw [if_neg h3]

/-- The digits of a text, the least first. -/
def digs (m : List UInt8) : List Nat := m.reverse.map fun c => c.toNat - 48
theorem digs_val (m : List UInt8) : valD (digs m) = numFrom 0 m := by
  have h : ∀ r : List UInt8, valD (r.map fun c => c.toNat - 48) = numFrom 0 r.reverse := by
    intro r
    induction r with
    | nil => rfl
    | cons x r ih => simp only [List.map_cons, valD, List.reverse_cons, numFrom_snoc, ih]; omega
  have := h m.reverse
  rw [List.reverse_reverse] at this
  exact this
theorem digs_10 {m : List UInt8} (h : m.all digitB = true) : dig10 (digs m) := fun d hd => by
  unfold digs at hd
  obtain ⟨c, hc, rfl⟩ := List.mem_map.1 hd
  have := List.all_eq_true.1 h c (List.mem_reverse.1 hc)
  simp only [digitB, decide_eq_true_eq] at this
  omega
theorem digs_step (l : List UInt8) (j : Nat) (hj : j < l.length) : digs (l.drop j) = digs (l.drop (j + 1)) ++ [l[j].toNat - 48] := by
  unfold digs
  rw [List.drop_eq_getElem_cons hj, List.reverse_cons, List.map_append]
  rfl
theorem all_step (l : List UInt8) (j : Nat) (hj : j < l.length) : (l.drop j).all digitB = (digitB l[j] && (l.drop (j + 1)).all digitB) := by
  rw [List.drop_eq_getElem_cons hj, List.all_cons]
theorem all_not {l : List UInt8} {f j : Nat} (hf : f ≤ j) (hj : j < l.length) (h : digitB l[j] = false) : (l.drop f).all digitB = false := by
  rw [List.all_eq_false]
  refine ⟨l[j], ?_, by simp [h]⟩
  rw [List.mem_iff_getElem]
  exact ⟨j - f, by rw [List.length_drop]; omega, by rw [List.getElem_drop]; congr 1; omega⟩
theorem digs_len (m : List UInt8) : (digs m).length = m.length := by simp [digs]

theorem negB_list : ∀ (l : List UInt8) (h : 0 < l.length), negB l = decide (l[0] = 45)
  | c :: r, _ => by
    unfold negB
    by_cases hc : c = 45
    · subst hc; rw [hp_minus]; simp
    · rw [hp_other r hc]; simp [hc]
theorem negB_first (s : ByteArray) (h : 0 < s.size) : negB s.data.toList = decide (s[0] = 45) := negB_list s.data.toList (by simpa using h)
theorem from_le (l : List UInt8) : fromN l ≤ l.length := by
  unfold fromN
  by_cases h : negB l = true
  · rw [if_pos h]
    cases l with
    | nil => exact absurd h (by decide)
    | cons c r => simp
  · rw [if_neg h]; omega
theorem res_two {fn : Func} {t r : Tmp} {tmps : Array Value} {W : World} {g : Nat} {x y z : Value} (h : fn.results = #[.cell t 60, .tmp r]) (ha : tmps[t]?.getD undef = .pointer (some ⟨g, 0, none⟩)) (hz : tmps[r]?.getD undef = z) (hb : Bk W g #[x, y]) :
    (results fn tmps).run Tryd.prog W = .ok (.tuple #[.agg #[x, y], z]) W := by
  have q0 := hb.cell 0
  have q1 := hb.cell 1
  simp at q0 q1
  simp [results, h, go_sem, ha, hz, q0, q1]

theorem zero_n {w : World} : IsN w (.agg #[.bool false, .slice none 0 0]) 0 := ⟨[], ⟨_, rfl, DS.nil _ _⟩, dig10_nil, tidy_nil, rfl⟩

set_option maxRecDepth 100000 in
set_option maxHeartbeats 4000000 in
theorem parseR_gen (s : ByteArray) (tx : Bool) (z : Int) (w : World) (hs : s.size ≤ 100) (htx : Hid (isTextB s.data.toList = tx)) (hvz : Hid (valB s.data.toList = z)) :
    Calls Tryd.prog 36 #[.string s] w fun e w' => ∃ b A n c, e = .returned (.tuple #[.agg #[.bool b, .slice A n c], .bool tx]) ∧ (tx = true → IsN w' (.agg #[.bool b, .slice A n c]) z) ∧ Below w.heap.size w w' := by
  obtain ⟨i0, hi, hz0, hz1, hz2⟩ := info_parts infoU8
  have hsl := Lib.size_eq s
  generalize hneg : negB s.data.toList = neg at *
  obtain ⟨f, hf⟩ : ∃ f, f = fromN s.data.toList := ⟨_, rfl⟩
  have hfn : f = if neg then 1 else 0 := by rw [hf, fromN, hneg]
  go_enter Tryd.func36, Tryd.ntmps36
  go_upto_region 3 with fail
  obtain ⟨b0, b1, hb, hsz⟩ := two_new w #[Value.bool false, Value.slice none 0 0] #[Value.bool false, Value.slice none 0 0] _ rfl
  generalize (w.alloc (Obj.cells #[Value.bool false, Value.slice none 0 0] 60)).alloc (Obj.cells #[Value.bool false, Value.slice none 0 0] 60) = W at *
  generalize e1 : w.heap.size + 1 = g1 at *
  have l1 : w.heap.size < g1 := by omega
  clear e1
  go_cut [14] (fun s14 wx => s14 = .bool neg ∧ wx = W)
  case first =>
    by_cases h0 : s.size = 0
    · have hn : neg = false := by
        rw [← hneg]
        have : s.data.toList = [] := List.eq_nil_of_length_eq_zero (by rw [← hsl]; exact h0)
        rw [this]; rfl
      have HN := Lib.hid hn
      have h0' : ¬ 0 < s.size := by omega
      clear hn hneg hsl hf hfn h0
      go_wp2_with fail
      go_meet
      exact ⟨by rw [HN.out], rfl⟩
    · have h1 : 0 < s.size := by omega
      have hn := negB_first s h1
      rw [hneg] at hn
      have HN := Lib.hid hn
      have t1 : ((s[0].toNat : Int) == 45) = decide (s[0] = 45) := by
        rw [Bool.eq_iff_iff, beq_iff_eq, decide_eq_true_iff, ← UInt8.toNat_inj]
        constructor
        · intro h; show s[0].toNat = 45; omega
        · intro h; have : s[0].toNat = 45 := h; omega
      clear hn hneg hsl hf hfn h0
      go_wp2_with fail
      go_meet
      exact ⟨by rw [HN.out], rfl⟩
  case rest =>
    obtain ⟨rfl, rfl⟩ := hcut
    go_upto_if 14 with fail
    go_cut [5] (fun s5 wx => s5 = .int .i64 f ∧ Bk wx w.heap.size #[.bool false, .slice none 0 0] ∧ Bk wx g1 #[.bool neg, .slice none 0 0] ∧ Below w.heap.size w wx ∧ g1 < wx.heap.size)
    case first =>
      have f0 := b1.cell 0
      have f2 := b1.frozen 0
      simp at f0
      cases neg
      · have HF : Hid (f = 0) := hfn
        clear hfn hneg hsl
        go_wp2_with fail
        go_meet
        exact ⟨by rw [HF.out]; rfl, b0, b1, hb, hsz⟩
      · have HF : Hid (f = 1) := hfn
        clear hfn hneg hsl
        go_wp2_with fail
        go_meet
        exact ⟨by rw [HF.out]; rfl, b0.far (by simp; omega) _, by simpa using b1.put 0 (.bool true), hb.setCell (by simp; omega) _, by simpa [World.setCell] using hsz⟩
    case rest =>
      obtain ⟨rfl, r0, r1, hbr, hs1⟩ := hcut
      clear b0 b1 hb hsz
      have hfle : f ≤ s.size := by rw [hf, hsl]; exact from_le _
      have hf1 : f ≤ 1 := by rw [hfn]; split <;> omega
      have q0 := r0.cell 0
      have q1 := r0.cell 1
      have q2 := r0.frozen 0
      have q3 := r0.frozen 1
      simp at q0 q1
      by_cases h1 : f = s.size
      · have hT : isTextB s.data.toList = false := text_short (by rw [← hsl, ← hf, h1])
        have HT : Hid (tx = false) := htx.out.symm.trans hT
        have t1 : ((s.size : Int) == (f : Int)) = true := by rw [beq_iff_eq, h1]
        clear hT hneg hfn hf hsl h1
        go_wp2_with fail
        refine bodyPost_ret (res_two (g := w.heap.size) rfl rfl rfl (by simpa using (r0.put 0 (.bool false)).put 1 (.slice none 0 0))) rfl ?_
        exact ⟨false, none, 0, 0, by rw [HT.out]; rfl, (fun h => by rw [HT.out] at h; cases h), by go_grown⟩
      · have hflt : f < s.size := by omega
        have hfl : f < s.data.toList.length := by rw [← hsl]; exact hflt
        have hgf : s[f] = s.data.toList[f]'hfl := rfl
        have t1 : ((s.size : Int) == (f : Int)) = false := by rw [beq_eq_false_iff_ne]; omega
        by_cases h2 : s[f].toNat = 48 ∧ 1 < s.size
        · have hT : isTextB s.data.toList = false := by
            refine text_zero (by rw [← hf]; exact hfl) ?_ (by rw [← hsl]; exact h2.2)
            simp only [← hf]
            exact h2.1
          have HT : Hid (tx = false) := htx.out.symm.trans hT
          have t2 : ((s[f].toNat : Int) == 48) = true := by rw [beq_iff_eq]; omega
          have t3 : (1 : Int) < s.size := by omega
          clear hT hneg hfn hf hsl h1 h2 hgf
          go_wp2_with fail
          refine bodyPost_ret (res_two (g := w.heap.size) rfl rfl rfl (by simpa using (r0.put 0 (.bool false)).put 1 (.slice none 0 0))) rfl ?_
          exact ⟨false, none, 0, 0, by rw [HT.out]; rfl, (fun h => by rw [HT.out] at h; cases h), by go_grown⟩
        · have hT : isTextB s.data.toList = (s.data.toList.drop f).all digitB := by
            have h2' : (s.data.toList[f]'hfl).toNat ≠ 48 ∨ s.data.toList.length = 1 := by
              rcases Nat.lt_or_ge 1 s.size with h | h
              · left; intro e; exact h2 ⟨e, h⟩
              · right; rw [← hsl]; omega
            subst hf
            exact text_digits hfl h2'
          have HT : Hid ((s.data.toList.drop f).all digitB = tx) := hT.symm.trans htx.out
          have HV : Hid (sgv neg (numFrom 0 (s.data.toList.drop f)) = z) := by
            have := valB_sgv s.data.toList
            rw [hneg, ← hf] at this
            exact this.symm.trans hvz.out
          have h3 : ((s[f].toNat : Int) == 48) = false ∨ ((s[f].toNat : Int) == 48) = true ∧ s.size ≤ 1 := by
            by_cases h4 : s[f].toNat = 48
            · exact .inr ⟨by rw [beq_iff_eq]; omega, by omega⟩
            · exact .inl (by rw [beq_eq_false_iff_ne]; omega)
          have HSL := Lib.hid hsl
          clear hT hneg hfn hf h1 h2 hgf htx hvz hsl
          go_upto_region 6 with fail
          go_cut [30] (fun s30 wx => s30 = .bool false ∧ wx = wc)
          case first =>
            rcases h3 with h3 | ⟨h3, h4⟩
            all_goals
              go_wp2_with fail
              go_meet
              exact ⟨by first | rfl | (congr 1; simp; omega), rfl⟩
          case rest =>
            obtain ⟨rfl, rfl⟩ := hcut
            clear h3
            go_wp2_with fail
            clear q0 q1 q2 q3
            go_loopw [6] (fun iv wr => ∃ (k : Nat) (v : Value), f ≤ k ∧ k ≤ s.size ∧ iv = .int .i64 ((k : Int) - 1) ∧ Hid ((s.data.toList.drop k).all digitB = true) ∧ Bk wr w.heap.size #[.bool false, .slice none 0 0] ∧ Bk wr g1 #[.bool neg, v] ∧
                wr.ownsRow (g1 + 1) 5 1 v (digs (s.data.toList.drop k)).length (cellsD (digs (s.data.toList.drop k))) ∧ g1 + 1 ≤ wr.heap.size ∧ Below w.heap.size w wr) (fun iv _ => (intOf iv + 1).toNat)
            case atStart => exact ⟨s.size, _, hfle, Nat.le_refl _, rfl, by rw [HSL.out, List.drop_length]; exact rfl, r0, r1, by rw [HSL.out, List.drop_length]; exact World.ownsRow_nil _ _ _ _, hs1, hbr⟩
            case round =>
              obtain ⟨k, v, hfk, hks, rfl, hall, r0, r1, hown, hs1, hbr⟩ := hrel
              by_cases hkf : k = f
              · subst hkf
                have HTX : Hid (tx = true) := HT.out.symm.trans hall.out
                have hd10 := digs_10 hall.out
                have hval := digs_val (s.data.toList.drop k)
                have hlen := digs_len (s.data.toList.drop k)
                rw [List.length_drop, ← HSL.out] at hlen
                have HZ : Hid (sgv neg (valD (digs (s.data.toList.drop k))) = z) := by show _ = z; rw [hval]; exact HV.out
                have hlen2 : (digs (s.data.toList.drop k)).length ≤ 100 := by omega
                clear hlen
                generalize digs (s.data.toList.drop k) = os at *
                obtain ⟨A3, c3, rfl⟩ := (DS.of_own hown).len
                have hnr : NR wr (.agg #[.bool neg, .slice A3 os.length c3]) neg os := ⟨_, rfl, DS.of_own hown⟩
                have f2 := r1.cell 0
                have f3 := r1.cell 1
                simp at f2 f3
                have HB := Lib.hid hown
                clear hown hval hall HV HT
                go_wp2_with (go_at_call 44; refine (trim_any _ _ _ _ hnr hd10 (by omega)).mono ?_; rintro e w1 ⟨r, rfl, hr, hb1⟩; obtain ⟨b4, A4, n4, c4, rfl⟩ := id hr.form; have q2 := r0.below hb1 r0.lt; have q20 := q2.cell 0; have q21 := q2.cell 1; have q22 := q2.frozen 0; have q23 := q2.frozen 1; simp at q20 q21)
                refine bodyPost_ret (res_two (g := w.heap.size) rfl rfl rfl (by simpa using (q2.put 0 (.bool b4)).put 1 (.slice A4 n4 c4))) rfl ?_
                have hbz := hbr.trans (hb1.mono hbr.size)
                refine ⟨b4, A4, n4, c4, by rw [HTX.out]; rfl, fun _ => ?_, by go_grown⟩
                rw [← HZ.out]
                exact (hr.put q2 0 _).put (q2.put 0 (.bool b4)) 1 _
              · obtain ⟨j, rfl⟩ : ∃ j, k = j + 1 := ⟨k - 1, by omega⟩
                have hjs : j < s.size := by omega
                have hjl : j < s.data.toList.length := by rw [← HSL.out]; exact hjs
                have e1 : (((j + 1 : Nat) : Int) - 1) = (j : Int) := by omega
                rw [e1]
                have hfj : f ≤ j := by omega
                clear e1 hkf hfk
                by_cases hd : 48 ≤ (s[j].toNat : Int) ∧ (s[j].toNat : Int) ≤ 57
                · have hA2 : Hid ((s.data.toList.drop j).all digitB = true) := by
                    show _ = true
                    rw [all_step _ j hjl, hall.out, Bool.and_true]
                    exact digitB_of hd
                  have HD : Hid (digs (s.data.toList.drop j) = digs (s.data.toList.drop (j + 1)) ++ [s[j].toNat - 48]) := digs_step _ j hjl
                  obtain ⟨hx, hy⟩ := hd
                  have hlen := digs_len (s.data.toList.drop (j + 1))
                  rw [List.length_drop, ← HSL.out] at hlen
                  have hlen2 : (digs (s.data.toList.drop (j + 1))).length ≤ 100 := by omega
                  clear hlen
                  generalize digs (s.data.toList.drop (j + 1)) = os at *
                  obtain ⟨A3, c3, rfl⟩ := (DS.of_own hown).len
                  have f3 := r1.cell 1
                  simp at f3
                  have f4 := r1.frozen 1
                  obtain ⟨d, hdd⟩ : ∃ d, d = s[j].toNat - 48 := ⟨_, rfl⟩
                  rw [← hdd] at HD
                  have hd9 : d ≤ 9 := by omega
                  have v2 : (s[j].toNat : Int) - 48 = (d : Int) := by omega
                  have v1 : IntKind.u8.wrap (d : Int) = (d : Int) := IntWalk.u8_in _ ⟨by omega, by omega⟩
                  have k0 : (j : Int) < s.size := by omega
                  have HJ := Lib.hid hjs
                  clear hall hdd
                  go_wp2_with fail
                  clear hx hy
                  have f5 := (r1.alloc (.cells #[.int .u8 (d : Int)] 5)).cell 1
                  have f6 := (r1.alloc (.cells #[.int .u8 (d : Int)] 5)).frozen 1
                  simp at f5
                  go_region_law (refine step_append_lies _ rfl (.tmp 52) (.tmp 57) 58 rfl (g1 + 1) 5 i0 (.int .u8 0) 1 1 Tryd.underlying58 hi hz0 hz1 hz2 rfl (by decide) (.slice A3 os.length c3) os.length (cellsD os) (by simp [Act.eval]) ((hown.alloc _).drew) ⟨wr.heap.size, 0, none⟩ 1 1 [.int .u8 (d : Int)] (by simp [Act.eval]) rfl (by exact cell_one_new wr _ _) (by intro u hu; rw [List.mem_singleton.1 hu]; rfl) (by omega) (by unfold maxLen; omega) (by omega) (by simp; omega) _ rfl ?_; intro gg cc w1 hown1 hg1 hg2 hg3; have q1 := (Bk.grown (w := (wr.alloc (.cells #[.int .u8 (d : Int)] 5)).drew) (r1.alloc _) hg1 (fun e => by have := (hown.lt g1 e.symm).1; omega)); have q4 := q1.cell 1; have q5 := q1.frozen 1; simp at q4)
                  all_goals
                    have hne : ∀ g, g < g1 + 1 → some g ≠ (Value.slice A3 os.length c3).ownBlock := fun g hg e => by have := (hown.lt g e.symm).1; omega
                    have q0 := Bk.grown (w := (wr.alloc (.cells #[.int .u8 (d : Int)] 5)).drew) (r0.alloc _) hg1 (hne _ (by omega))
                    have hb1 : Below w.heap.size w w1 := (show Below w.heap.size w (wr.alloc (.cells #[.int .u8 (d : Int)] 5)).drew from below_drewN (hbr.alloc (by omega) _) 1).grown hg1 (by simp; omega) (fun k hk => by have := (hown.lt k hk).1; omega)
                    have hs2 : g1 + 1 ≤ w1.heap.size := by have := hg1.size; simp at this; omega
                    rw [← cellsD_snoc] at hown1
                    have hlo' : (os ++ [d]).length = os.length + 1 := by simp
                    rw [← hlo', ← HD.out] at hown1
                    rw [← hlo', ← HD.out] at *
                    go_wp2_with fail
                    go_roundw
                    case rel =>
                      exact ⟨j, _, hfj, by omega, rfl, hA2, q0.far (by simp; omega) _, by simpa using q1.put 1 (.slice (some ⟨gg, 0, none⟩) _ cc), own_setN hown1 (by simp) _, by simpa [World.setCell] using hs2, hb1.setCell (by simp; omega) _⟩
                    case measure => simp [intOf]
                · have hTF : Hid (tx = false) := HT.out.symm.trans (all_not hfj hjl (digitB_not hd))
                  have q20 := r0.cell 0
                  have q21 := r0.cell 1
                  have q22 := r0.frozen 0
                  have q23 := r0.frozen 1
                  simp at q20 q21
                  have hd2 : (s[j].toNat : Int) < 48 ∨ (48 ≤ (s[j].toNat : Int) ∧ 57 < (s[j].toNat : Int)) := by omega
                  clear hd hall HV HT hown
                  rcases hd2 with h1 | ⟨h1, h2⟩
                  all_goals
                    go_wp2_with fail
                    refine bodyPost_ret (res_two (g := w.heap.size) rfl rfl rfl (by simpa using (r0.put 0 (.bool false)).put 1 (.slice none 0 0))) rfl ?_
                    exact ⟨false, none, 0, 0, by rw [hTF.out]; rfl, (fun h => by rw [hTF.out] at h; cases h), by go_grown⟩
end Go.Proofs.YtjgaoajbcbpbbaaDoor
