/- Nth and Index of package masks. -/
import Derived.Test.YthgnoeigjngniaaMD
namespace Go.Proofs.Ythgnoeigjngniaa
open Go.RowKit

/-- A range's step over a mask, the iterator's block written out. -/
theorem next_in' {W : World} {g : Nat} (hg : W.heap.size = g) {s : ByteArray} {k : Nat} (h : k < s.size) (hp : plc (sat s k)) (ty : TypeId) :
    (Instr.next (.pointer (some ⟨g, 0, none⟩)) true ty).run Try.prog (W.alloc (.stringIter s k)) = .ok (.tuple #[.bool true, .int .i64 k, .int .i32 ((sat s k).toNat : Nat)]) (W.alloc (.stringIter s (k + 1))) := next_in hg h hp ty
theorem next_out' {W : World} {g : Nat} (hg : W.heap.size = g) (s : ByteArray) (ty : TypeId) :
    (Instr.next (.pointer (some ⟨g, 0, none⟩)) true ty).run Try.prog (W.alloc (.stringIter s s.size)) = .ok (.tuple #[.bool false]) (W.alloc (.stringIter s s.size)) := next_out hg s ty
theorem iterPos_at' {W : World} {g : Nat} (hg : W.heap.size = g) (s : ByteArray) (p : Nat) : (W.alloc (.stringIter s p)).iterPos g = p := iterPos_at hg s p
def cutF (f : Nat → Nat) (k : Nat) : Nat → Nat := fun j => if j < k then f j else 0
theorem cutF_zero (f : Nat → Nat) : cellsT (cutF f 0) = cellsT fun _ => 0 := cellsD_congr fun j _ => by unfold cutF; rw [if_neg (by omega)]
theorem cutF_step (f : Nat → Nat) (k : Nat) : cellsT (upd (cutF f k) k (f k)) = cellsT (cutF f (k + 1)) := cellsD_congr fun j _ => by
  unfold upd cutF
  by_cases h : j = k
  · subst h; rw [if_pos rfl, if_pos (by omega)]
  · rw [if_neg h]
    by_cases h' : j < k
    · rw [if_pos h', if_pos (by omega)]
    · rw [if_neg h', if_neg (by omega)]
theorem cutF_join (f : Nat → Nat) (k : Nat) : joinF (cutF f k) k = joinF f k := joinF_congr fun j hj => by unfold cutF; rw [if_pos hj]
theorem cutF_le {f : Nat → Nat} (h : ∀ j, f j ≤ 9) (k j : Nat) : cutF f k j ≤ 9 := by unfold cutF; split
                                                                                      · exact h j
                                                                                      · omega
/-- The oldest of three new blocks. -/
theorem cell_third (X : World) (C : Array Value) (T : TypeId) (o p : Obj) (j : Nat) : (((X.alloc (.cells C T)).alloc o).alloc p).cell? ⟨X.heap.size, j, none⟩ = C[j]? := by
  rw [World.cell?_alloc_lt _ _ _ (by simp; omega)]
  exact World.cell?_alloc2_first C T o j

/-- The one in the midst of three new blocks. -/
theorem cell_mid3 (X : World) (D : Array Value) (T : TypeId) (o p : Obj) (j : Nat) : (((X.alloc o).alloc (.cells D T)).alloc p).cell? ⟨X.heap.size + 1, j, none⟩ = D[j]? := by
  rw [World.cell?_alloc_lt _ _ _ (by simp)]
  exact World.cell?_alloc2_new o D T j
theorem frozen_mid3 (X : World) (D : Array Value) (T : TypeId) (o p : Obj) (j : Nat) : (((X.alloc o).alloc (.cells D T)).alloc p).frozen? ⟨X.heap.size + 1, j, none⟩ = false := by
  rw [World.frozen?_alloc_past _ _ _ (by simp)]
  exact World.frozen?_alloc2_new o D T j
theorem set_mid3 (X : World) (D : Array Value) (T : TypeId) (o p : Obj) (j : Nat) (v : Value) :
    (((X.alloc o).alloc (.cells D T)).alloc p).setCell ⟨X.heap.size + 1, j, none⟩ v = ((X.alloc o).alloc (.cells (D.setIfInBounds j v) T)).alloc p := by
  rw [World.setCell_alloc_past _ _ _ _ (by simp), World.setCell_alloc_at _ _ _ _ _ (by simp)]

variable (s : ByteArray) (n : Int) (w : World)
set_option maxHeartbeats 1600000 in
theorem nth_any (hs : s.size ≤ maxLen) (h0 : -9223372036854775808 ≤ n) (h1 : n ≤ 9223372036854775807) :
    Calls Try.prog 16 #[.string s, .int .i64 n] w fun e w' => e = .returned (mk2 s (nthV (rv s) n) (nthE (rv s) n)) ∧ Below w.heap.size w w' := by
  by_cases h : chkS s = 0
  · have hm := mask_of h
    rw [mk2_ok hm]
    have HC : Hid (∀ W, Calls Try.prog 9 #[.string s] W fun e w' => e = .returned (.tuple #[.int .i64 (cntR (rv s) : Nat), .int .i64 0]) ∧ Below W.heap.size W w') := fun W => by have := count_any s W hs; rwa [mk2_ok hm] at this
    by_cases hr : 0 ≤ n ∧ n < (cntR (rv s) : Nat)
    · obtain ⟨u, rfl⟩ : ∃ u : Nat, n = u := ⟨n.toNat, by omega⟩
      have hv : nthV (rv s) u = (nthR (rv s) u : Nat) := by unfold nthV; rw [if_pos hr]; rfl
      have he : nthE (rv s) u = 0 := by unfold nthE; rw [if_pos hr]
      rw [hv, he]
      clear hv he
      have HX : Hid (∀ W, Calls Try.prog 34 #[.string s, .string ⟨#[88]⟩] W fun e w' => e = .returned (.int .i64 (cX s s.size : Nat)) ∧ W = w') := fun W => by have := countX s 88 W; rwa [cX_count] at this
      have hx : cX s s.size ≤ 18 := Nat.le_trans (cX_le s _) hm.le
      obtain ⟨f, hf⟩ : ∃ f, f = fun j => dorN (sat s j) (digF (cX s s.size) u (cX s j)) := ⟨_, rfl⟩
      have h9 : ∀ j, f j ≤ 9 := fun j => by rw [hf]; exact dorN_all hm.plcs (digF_le _ _ _) j
      have HR : Hid (joinF f s.size = nthR (rv s) u) := by show _ = _; rw [hf]; exact nth_all s u
      obtain ⟨g, hg⟩ : ∃ g, g = digF (cX s s.size) u := ⟨_, rfl⟩
      have HF : Hid (∀ j, f j = dorN (sat s j) (g (cX s j))) := fun j => by rw [hf, hg]
      have hun : u ≤ 9223372036854775807 := by omega
      obtain ⟨M, hM⟩ : ∃ M, M = cX s s.size := ⟨_, rfl⟩
      rw [← hM] at HX hx hg
      have HG : Hid (∀ W, Calls Try.prog 36 #[.int .i64 (u : Nat), .int .i64 (M : Nat)] W fun e w' => e = .returned (.agg (cellsT g)) ∧ Below W.heap.size W w') := fun W => by rw [hg]; exact digitsOf_any u M W _ _ rfl rfl hun hx
      have hrc : (u : Int) < (cntR (rv s) : Nat) := hr.2
      have HJ : Hid (∀ W, Calls Try.prog 38 #[.agg (cellsT (cutF f s.size)), .int .i64 (s.size : Nat)] W fun e w' => e = .returned (.int .i64 (nthR (rv s) u : Nat)) ∧ Below W.heap.size W w') := fun W => by
        have := joined_any (cutF f s.size) s.size W _ _ rfl rfl hm.le (cutF_le h9 _)
        rwa [cutF_join, HR.out] at this
      have HP := Lib.hid (fun k hk => plc_sat hm.plcs (k := k) hk)
      have h18 := hm.le
      have hpos := hm.pos
      clear h hm hf hr HR hg hM
      generalize cntR (rv s) = cn at *
      generalize nthR (rv s) u = res at *
      have hz := zeroD
      go_enter Try.func16, Try.ntmps16
      go_wp2_with (first
        | (go_at_call 9; refine (HC.out _).mono ?_; rintro e w1 ⟨rfl, hb⟩)
        | (go_at_call 34; refine (HX.out _).mono ?_; rintro e w2 ⟨rfl, rfl⟩)
        | (go_at_call 36; refine (HG.out _).mono ?_; rintro e w3 ⟨rfl, hb2⟩)
        | (refine wpl_storeD rfl (.tmp 8) (.tmp 31) rfl _ _ _ rfl rfl (rowD_new _ _) ?_))
      rw [World.setRow_alloc_new]
      clear HX HG HC hun hrc
      have HBW := Lib.hid (bthen hb hb2)
      clear hb hb2
      obtain ⟨G, hG⟩ : ∃ G, G = cellsT g := ⟨_, rfl⟩
      rw [← hG]
      have HGC : Hid (∀ j, j < 18 → G[j]? = some (.int .i64 (g j : Nat))) := fun j hj => by rw [hG, cellsD_at g hj]
      have hGs : G.size = 18 := by rw [hG, cellsD_size]
      clear hG hz
      go_loopw [10] (fun uv wr => ∃ (k : Nat) (D : Array Value), k ≤ s.size ∧ uv = .int .i64 (cX s k : Nat) ∧ Hid (D = cellsT (cutF f k)) ∧ wr = ((w3.alloc (.cells G 56)).alloc (.cells D 56)).alloc (.stringIter s k)) (fun _ wr => s.size - wr.iterPos (w3.heap.size + 1 + 1))
      case atStart => exact ⟨0, _, Nat.zero_le _, rfl, (cutF_zero f).symm, rfl⟩
      case round =>
        obtain ⟨k, D, hk, rfl, hD, rfl⟩ := hrel
        have hX := size_alloc_of (size_alloc_of (X := w3) rfl (.cells G 56)) (.cells D 56)
        by_cases hlt : k < s.size
        · have hp := HP.out k hlt
          have hnx := next_in' hX hlt hp
          have hck := cX_le s k
          have hc := (cell_third w3 G 56 (.cells D 56) (.stringIter s (k + 1)) (cX s k)).trans (HGC.out _ (by omega))
          have HD : Hid (∀ W, Calls Try.prog 37 #[.int .i32 ((sat s k).toNat : Nat), .int .i64 (g (cX s k) : Nat)] W fun e w' => e = .returned (.int .i64 (f k : Nat)) ∧ W = w') := fun W => by rw [HF.out k]; exact digitOr_any _ _ _ _ W hp rfl rfl
          have HS : Hid (D.setIfInBounds k (.int .i64 (f k : Nat)) = cellsT (cutF f (k + 1))) := by show _ = _; rw [hD.out, cellsD_set, cutF_step]
          have hDs : D.size = 18 := by rw [hD.out, cellsD_size]
          obtain ⟨z, hz⟩ : ∃ z : Nat, D[k]? = some (.int .i64 (z : Nat)) := ⟨cutF f k k, by rw [hD.out]; exact cellsD_at _ (by omega)⟩
          have hDk := (cell_mid3 w3 D 56 (.cells G 56) (.stringIter s (k + 1)) k).trans hz
          clear hz
          have hDf := frozen_mid3 w3 D 56 (.cells G 56) (.stringIter s (k + 1)) k
          have hDw := set_mid3 w3 D 56 (.cells G 56) (.stringIter s (k + 1)) k
          have HK : Hid (cX s (k + 1) = if (sat s k).toNat = 88 then cX s k + 1 else cX s k) := rfl
          have hcu : (cX s k : Int) < 18 := by omega
          clear hD
          have hk18 : (k : Int) < 18 := by omega
          generalize f k = x at *
          generalize g (cX s k) = y at *
          generalize cX s k = c at *
          by_cases h88 : (sat s k).toNat = 88
          · have hb1 : (((sat s k).toNat : Nat) : Int) = 88 := by omega
            have hK := HK.out.trans (if_pos h88)
            have HK' := Lib.hid hK
            rw [hb1] at HD hnx
            clear hK h88 hp HK
            go_wp2_with (go_at_call 37; refine (HD.out _).mono ?_; rintro e w' ⟨rfl, rfl⟩)
            go_roundw
            case rel => exact ⟨k + 1, _, by omega, by rw [HK'.out]; go_num, HS, rfl⟩
            case measure =>
              have e1 := iterPos_at' (size_alloc_of (size_alloc_of (X := w3) rfl (.cells G 56)) (.cells (D.setIfInBounds k (.int .i64 (x : Nat))) 56)) s (k + 1)
              have e2 := iterPos_at' hX s k
              rw [e1, e2]; omega
          · have hb1 : ¬ (((sat s k).toNat : Nat) : Int) = 88 := by omega
            have hK := HK.out.trans (if_neg h88)
            have HK' := Lib.hid hK
            clear hK h88 hp HK
            go_wp2_with (go_at_call 37; refine (HD.out _).mono ?_; rintro e w' ⟨rfl, rfl⟩)
            go_roundw
            case rel => exact ⟨k + 1, _, by omega, by rw [HK'.out], HS, rfl⟩
            case measure =>
              have e1 := iterPos_at' (size_alloc_of (size_alloc_of (X := w3) rfl (.cells G 56)) (.cells (D.setIfInBounds k (.int .i64 (x : Nat))) 56)) s (k + 1)
              have e2 := iterPos_at' hX s k
              rw [e1, e2]; omega
        · obtain rfl : k = s.size := by omega
          have hnx := next_out' hX s
          subst hD
          have hrow := rowD_old (rowD_new2 w3 (.cells G 56) (cutF f s.size)) (.stringIter s s.size)
          clear HF HP
          go_wp2_with (first
            | (refine wpl_loadD rfl (.tmp 9) rfl _ _ rfl hrow ?_)
            | (go_at_call 38; refine (HJ.out _).mono ?_; rintro e w5 ⟨rfl, hb5⟩))
          go_ret2
          exact ⟨rfl, bthen (bthen HBW.out (((((Below.refl _ w3).alloc (Nat.le_refl _) _).alloc (by simp) _).alloc (by simp; omega) _))) hb5⟩
    · have hv : nthV (rv s) n = 0 := by unfold nthV; rw [if_neg hr]
      have he : nthE (rv s) n = 4 := by unfold nthE; rw [if_neg hr]
      rw [hv, he]
      have hr' : n < 0 ∨ (0 ≤ n ∧ (cntR (rv s) : Nat) ≤ n) := by omega
      clear hv he hr hm h
      generalize cntR (rv s) = c at *
      rcases hr' with hr' | ⟨hr1, hr2⟩
      all_goals
        go_enter Try.func16, Try.ntmps16
        go_wp2_with (go_at_call 9; refine (HC.out _).mono ?_; rintro e w1 ⟨rfl, hb⟩)
        go_ret2
        exact ⟨rfl, hb⟩
  · rw [mk2_bad h]
    have HC : Hid (∀ W, Calls Try.prog 9 #[.string s] W fun e w' => e = .returned (.tuple #[.int .i64 0, .int .i64 (chkS s)]) ∧ Below W.heap.size W w') := fun W => by have := count_any s W hs; rwa [mk2_bad h] at this
    generalize chkS s = E at *
    go_enter Try.func16, Try.ntmps16
    go_wp2_with (go_at_call 9; refine (HC.out _).mono ?_; rintro e w1 ⟨rfl, hb⟩)
    go_ret2
    exact ⟨rfl, hb⟩

theorem mem10 (s : ByteArray) (k m : Nat) (hk : k ≤ 17) (hks : k ≤ s.size) : idxR (pre s k) m < 100000000000000000 := by
  have h1 := idx_lt (pre s k) m
  rw [cnt_cX s k hks] at h1
  have h2 : cX s k ≤ 17 := Nat.le_trans (cX_le s k) hk
  have := Nat.pow_le_pow_right (show 0 < 10 by omega) h2
  omega
set_option maxHeartbeats 1600000 in
theorem index_any (hs : s.size ≤ maxLen) (h0 : -9223372036854775808 ≤ n) (h1 : n ≤ 9223372036854775807) :
    Calls Try.prog 18 #[.string s, .int .i64 n] w fun e w' => e = .returned (mk2 s (idxV (rv s) n) (idxE (rv s) n)) ∧ Below w.heap.size w w' := by
  by_cases h : chkS s = 0
  · have hm := mask_of h
    rw [mk2_ok hm]
    have HC : Hid (∀ W, Calls Try.prog 15 #[.string s] W fun e w' => e = .returned (.int .i64 0) ∧ Below W.heap.size W w') := fun W => by have := check_any s W hs; rwa [h] at this
    have HH : Hid (∀ W, Calls Try.prog 19 #[.string s, .int .i64 n] W fun e w' => e = .returned (.bool (hasI (rv s) n)) ∧ Below W.heap.size W w') := fun W => by
      have := has_any s n W hs h0 h1
      rwa [show (decide (chkS s = 0) && hasI (rv s) n) = hasI (rv s) n by simp [h]] at this
    cases hr : hasI (rv s) n with
    | true =>
      obtain ⟨u, rfl⟩ : ∃ u : Nat, n = u := by obtain ⟨i, _, rfl⟩ := hasI_idx hr; exact ⟨_, rfl⟩
      have hv : idxV (rv s) u = (idxR (rv s) u : Nat) := by unfold idxV; rw [if_pos hr]; rfl
      have he : idxE (rv s) u = 0 := by unfold idxE; rw [if_pos hr]
      rw [hv, he]
      rw [hr] at HH
      clear hv he
      have hu : u < 10 ^ s.size := rv_lt hm.plcs (by rwa [hasI_nat] at hr)
      have HG : Hid (∀ W, Calls Try.prog 36 #[.int .i64 (u : Nat), .int .i64 (s.size : Nat)] W fun e w' => e = .returned (.agg (cellsT (digF s.size u))) ∧ Below W.heap.size W w') := fun W => digitsOf_any u s.size W _ _ rfl rfl (by omega) hm.le
      have HR : Hid (idxR (pre s s.size) (u / 10 ^ (s.size - s.size)) = idxR (rv s) u) := by show _ = _; rw [Nat.sub_self, Nat.pow_zero, Nat.div_one, pre_all]
      have HZ : Hid (idxR (pre s 0) (u / 10 ^ (s.size - 0)) = 0) := by show _ = _; rw [pre_zero]; rfl
      have HS := Lib.hid (fun k hk => idx_step s u k hk)
      have H9 := Lib.hid (fun j => digF_le s.size u j)
      obtain ⟨g, hg⟩ : ∃ g, g = digF s.size u := ⟨_, rfl⟩
      rw [← hg] at HG H9 HS
      have HP := Lib.hid (fun k hk => plc_sat hm.plcs (k := k) hk)
      have h18 := hm.le
      have hpos := hm.pos
      have hz := zeroD
      clear h hm hr hg hu
      go_enter Try.func18, Try.ntmps18
      go_wp2_with (first
        | (go_at_call 15; refine (HC.out _).mono ?_; rintro e w1 ⟨rfl, hb⟩)
        | (go_at_call 19; refine (HH.out _).mono ?_; rintro e w2 ⟨rfl, hb2⟩)
        | (go_at_call 36; refine (HG.out _).mono ?_; rintro e w3 ⟨rfl, hb3⟩)
        | (refine wpl_storeD rfl (.tmp 7) (.tmp 23) rfl _ _ _ rfl rfl (rowD_new _ _) ?_))
      rw [World.setRow_alloc_new]
      have HBW := Lib.hid (bthen (bthen hb hb2) hb3)
      clear hb hb2 hb3 HC HH HG
      obtain ⟨G, hG⟩ : ∃ G, G = cellsT g := ⟨_, rfl⟩
      rw [← hG]
      have HGC : Hid (∀ j, j < 18 → G[j]? = some (.int .i64 (g j : Nat))) := fun j hj => by rw [hG, cellsD_at g hj]
      have hGs : G.size = 18 := by rw [hG, cellsD_size]
      clear hG hz
      go_loopw [8] (fun iv wr => ∃ k m : Nat, k ≤ s.size ∧ Hid (m = idxR (pre s k) (u / 10 ^ (s.size - k))) ∧ iv = .int .i64 (m : Nat) ∧ wr = (w3.alloc (.cells G 56)).alloc (.stringIter s k)) (fun _ wr => s.size - wr.iterPos (w3.heap.size + 1))
      case atStart => exact ⟨0, 0, Nat.zero_le _, HZ.out.symm, rfl, rfl⟩
      case round =>
        obtain ⟨k, m, hk, hm, rfl, rfl⟩ := hrel
        have hX := size_alloc_of (X := w3) rfl (.cells G 56)
        by_cases hlt : k < s.size
        · have hp := HP.out k hlt
          have hnx := next_in' hX hlt hp
          have hc : ((w3.alloc (.cells G 56)).alloc (.stringIter s (k + 1))).cell? ⟨w3.heap.size, k, none⟩ = some (.int .i64 (g k : Nat)) := (iter_cell (X := w3) rfl G 56 s (k + 1) k).trans (HGC.out k (by omega))
          have hmb := mem10 s k (u / 10 ^ (s.size - k)) (by omega) hk
          rw [← hm.out] at hmb
          have hS := HS.out k hlt
          rw [← hm.out] at hS
          have hg9 := H9.out k
          have hk18 : (k : Int) < 18 := by omega
          clear hm
          generalize g k = y at *
          by_cases h88 : (sat s k).toNat = 88
          · have hb1 : (((sat s k).toNat : Nat) : Int) = 88 := by omega
            rw [if_pos h88] at hS
            have HK := Lib.hid hS
            rw [hb1] at hnx
            clear hS h88 hp hb1
            go_wp2
            go_roundw
            case rel => exact ⟨k + 1, 10 * m + y, by omega, HK.out.symm, by go_num, rfl⟩
            case measure =>
              have e1 := iterPos_at' hX s (k + 1)
              have e2 := iterPos_at' hX s k
              rw [e1, e2]; omega
          · have hb1 : ¬ (((sat s k).toNat : Nat) : Int) = 88 := by omega
            rw [if_neg h88] at hS
            have HK := Lib.hid hS
            clear hS h88 hp
            go_wp2
            go_roundw
            case rel => exact ⟨k + 1, m, by omega, HK.out.symm, rfl, rfl⟩
            case measure =>
              have e1 := iterPos_at' hX s (k + 1)
              have e2 := iterPos_at' hX s k
              rw [e1, e2]; omega
        · obtain rfl : k = s.size := by omega
          have hnx := next_out' hX s
          rw [HR.out] at hm
          clear HP HS HR
          go_wp2
          go_ret2
          exact ⟨by rw [← hm.out]; rfl, HBW.out.trans ((((Below.refl w3.heap.size w3).alloc (Nat.le_refl _) _).alloc (by simp) _).mono HBW.out.size)⟩
    | false =>
      have hv : idxV (rv s) n = 0 := by unfold idxV; rw [if_neg (by rw [hr]; decide)]
      have he : idxE (rv s) n = 16 := by unfold idxE; rw [if_neg (by rw [hr]; decide)]
      rw [hv, he]
      rw [hr] at HH
      clear hv he hr hm h
      go_enter Try.func18, Try.ntmps18
      go_wp2_with (first
        | (go_at_call 15; refine (HC.out _).mono ?_; rintro e w1 ⟨rfl, hb⟩)
        | (go_at_call 19; refine (HH.out _).mono ?_; rintro e w2 ⟨rfl, hb2⟩))
      go_ret2
      exact ⟨rfl, bthen hb hb2⟩
  · rw [mk2_bad h]
    have HC : Hid (∀ W, Calls Try.prog 15 #[.string s] W fun e w' => e = .returned (.int .i64 (chkS s)) ∧ Below W.heap.size W w') := fun W => check_any s W hs
    generalize chkS s = E at *
    go_enter Try.func18, Try.ntmps18
    go_wp2_with (go_at_call 15; refine (HC.out _).mono ?_; rintro e w1 ⟨rfl, hb⟩)
    go_ret2
    exact ⟨rfl, hb⟩
end Go.Proofs.Ythgnoeigjngniaa
