/- The digits of a number in an array: digitsOf, joined, agreeing, filled. -/
import Derived.Test.YthgnoeigjngniaaMC0
import Derived.Deep.WholeRow
import Derived.Laws.NewBlocks
namespace Go.Proofs.Ythgnoeigjngniaa
open Go.RowKit

/-- The cells of an array of 18 digits. -/
def cellsT (f : Nat → Nat) : Array Value := Array.ofFn (n := 18) fun i => .int .i64 (f i : Nat)
def upd (f : Nat → Nat) (i v : Nat) : Nat → Nat := fun j => if j = i then v else f j
theorem cellsD_size (f : Nat → Nat) : (cellsT f).size = 18 := by simp [cellsT]
theorem cellsD_at (f : Nat → Nat) {j : Nat} (h : j < 18) : (cellsT f)[j]? = some (.int .i64 (f j : Nat)) := by simp [cellsT, h]
theorem cellsD_set (f : Nat → Nat) (i v : Nat) : (cellsT f).setIfInBounds i (.int .i64 (v : Nat)) = cellsT (upd f i v) := by
  apply Array.ext_getElem?
  intro j
  rw [Array.getElem?_setIfInBounds]
  unfold upd
  by_cases hj : j < 18
  · rw [cellsD_at _ hj, cellsD_at _ hj, cellsD_size]
    by_cases h : i = j
    · subst h; simp [hj]
    · have h' : ¬ j = i := fun e => h e.symm
      simp [h, h']
  · rw [Array.getElem?_eq_none (by rw [cellsD_size]; omega), Array.getElem?_eq_none (by rw [cellsD_size]; omega), cellsD_size]
    split
    · rw [if_neg (by omega)]
    · rfl
theorem cellsD_congr {f g : Nat → Nat} (h : ∀ j, j < 18 → f j = g j) : cellsT f = cellsT g := by
  apply Array.ext_getElem?
  intro j
  by_cases hj : j < 18
  · rw [cellsD_at _ hj, cellsD_at _ hj, h j hj]
  · rw [Array.getElem?_eq_none (by rw [cellsD_size]; omega), Array.getElem?_eq_none (by rw [cellsD_size]; omega)]
theorem infoD : (Try.prog.info? 56).map (fun i => (i.zero, i.size)) = some (some (.agg (cellsT fun _ => 0)), 18) := by kernel_rfl
theorem zeroD : ∀ w, (zeroValue 56).run Try.prog w = .ok (.agg (cellsT fun _ => 0)) w := (zero_of_info infoD).1
theorem sizeD (f : Nat → Nat) : (Try.prog.info? 56).map (·.size) = some (cellsT f).size := by rw [cellsD_size]; exact (zero_of_info infoD).2
theorem oneD (f : Nat → Nat) : (cellsT f).all (·.oneCell') = true := by
  rw [Array.all_eq_true_iff_forall_mem]
  intro v hv
  simp only [cellsT, Array.mem_ofFn] at hv
  obtain ⟨i, rfl⟩ := hv
  rfl

/-- A row of digits out of and into its block. -/
def RowD (w : World) (g : Nat) (f : Nat → Nat) : Prop := w.heap[g]? = some (.cells (cellsT f)  56 (0, 0))
theorem loadD {w : World} {g : Nat} {f : Nat → Nat} (hg : RowD w g f) : (Instr.loadAt  56 (.pointer (some ⟨g, 0, none⟩))).run Try.prog w = .ok (.agg (cellsT f)) w := by
  simp only [Instr.loadAt, Instr.sureAddr, Sem.run_bind, Sem.run_pure, Result.andThen]
  exact run_loadVar_row w g  56  56 _ (0, 0) _ hg Try.underlying56 rfl (sizeD f)
theorem loadVD {w : World} {g : Nat} {f : Nat → Nat} (hg : RowD w g f) : (loadVar  56 ⟨g, 0, none⟩).run Try.prog w = .ok (.agg (cellsT f)) w :=
  run_loadVar_row w g  56  56 _ (0, 0) _ hg Try.underlying56 rfl (sizeD f)
theorem storeD {w : World} {g : Nat} {f : Nat → Nat} (f' : Nat → Nat) (hg : RowD w g f) : (Instr.storeAt  56 (.pointer (some ⟨g, 0, none⟩)) (.agg (cellsT f'))).run Try.prog w = .ok () (w.setRow g (cellsT f')) := by
  simp only [Instr.storeAt, Instr.sureAddr, Sem.run_bind, Sem.run_pure, Result.andThen]
  exact run_storeVar_row w g  56  56 _ _ hg (sizeD f') (by rw [cellsD_size, cellsD_size]) (oneD f')
theorem wpl_loadD {ops : Array Oper} {rest : List Oper} {o : Oper} {a : Act} {w : World} {Q : Exit → Act → World → Prop} (hgd : o.guard = none) (x : Operand) (ho : o.op = .load 56 x)
    (g : Nat) (f : Nat → Nat) (hx : a.eval x = .pointer (some ⟨g, 0, none⟩)) (hg : RowD w g f) (h : wpList Try.prog ops Q rest (a.put o.dst (.agg (cellsT f))) w) : wpList Try.prog ops Q (o :: rest) a w :=
  wpList_load_row hgd 56 x ho g hx 56 _ (0, 0) _ hg Try.underlying56 rfl (sizeD f) h
theorem wpl_storeD {ops : Array Oper} {rest : List Oper} {o : Oper} {a : Act} {w : World} {Q : Exit → Act → World → Prop} (hgd : o.guard = none) (x y : Operand) (ho : o.op = .store 56 x y)
    (g : Nat) (f f' : Nat → Nat) (hx : a.eval x = .pointer (some ⟨g, 0, none⟩)) (hy : a.eval y = .agg (cellsT f')) (hg : RowD w g f)
    (h : wpList Try.prog ops Q rest (a.put o.dst undef) (w.setRow g (cellsT f'))) : wpList Try.prog ops Q (o :: rest) a w :=
  wpList_store_row hgd 56 x y ho g (cellsT f') hx hy 56 _ hg (sizeD f') (by rw [cellsD_size, cellsD_size]) (oneD f') h
theorem rowD_set {w : World} {g : Nat} {f : Nat → Nat} (f' : Nat → Nat) (h : RowD w g f) : RowD (w.setRow g (cellsT f')) g f' := setRow_heap w g _ _ _ _ h
theorem rowD_new (w : World) (f : Nat → Nat) : RowD (w.alloc (.cells (cellsT f)  56)) w.heap.size f := heap_alloc_last w _
theorem rowD_new2 (w : World) (o : Obj) (f : Nat → Nat) : RowD ((w.alloc o).alloc (.cells (cellsT f)  56)) (w.heap.size + 1) f := by
  have := heap_alloc_last (w.alloc o) (.cells (cellsT f)  56)
  rwa [World.size_alloc] at this
theorem rowD_old {w : World} {g : Nat} {f : Nat → Nat} (h : RowD w g f) (o : Obj) : RowD (w.alloc o) g f := by
  have hlt : g < w.heap.size := by
    rcases Nat.lt_or_ge g w.heap.size with hlt | hge
    · exact hlt
    · unfold RowD at h; rw [Array.getElem?_eq_none hge] at h; cases h
  exact (Below.heap_alloc w o g hlt).trans h
theorem rowD_cell {w : World} {g : Nat} {f : Nat → Nat} (h : RowD w g f) {j : Nat} (hj : j < 18) : w.cell? ⟨g, j, none⟩ = some (.int .i64 (f j : Nat)) := by
  rw [cell_of_row w g j _ _ _ h, cellsD_at f hj]

theorem below_row {B g : Nat} {w0 w : World} (hb : Below B w0 w) (hBg : B ≤ g) (cs : Array Value) : Below B w0 (w.setRow g cs) :=
  hb.trans ⟨rfl, rfl, rfl, by simp [World.setRow], fun k hk => setRow_other w g k cs (by omega)⟩

def partF (k n p : Nat) : Nat → Nat := fun j => if p ≤ j then digF k n j else 0
theorem partF_top (k n : Nat) : cellsT (partF k n k) = cellsT fun _ => 0 := cellsD_congr fun j _ => by unfold partF digF; split <;> first | rfl | rw [if_neg (by omega)]
theorem partF_all (k n : Nat) : cellsT (partF k n 0) = cellsT (digF k n) := cellsD_congr fun j _ => by unfold partF; rw [if_pos (by omega)]
theorem partF_step (k n p : Nat) (hp : p < k) : cellsT (upd (partF k n (p + 1)) p (n / 10 ^ (k - 1 - p) % 10)) = cellsT (partF k n p) := cellsD_congr fun j _ => by
  unfold upd partF
  by_cases h : j = p
  · subst h; rw [if_pos rfl, if_pos (Nat.le_refl _), (dig_step hp).1]
  · rw [if_neg h]
    by_cases h' : p ≤ j
    · rw [if_pos h', if_pos (by omega)]
    · rw [if_neg h', if_neg (by omega)]

set_option maxHeartbeats 800000 in
theorem digitsOf_any (n k : Nat) (w : World) (nv kv : Int) (hnv : nv = (n : Int)) (hkv : kv = (k : Int)) (hn : n ≤ 9223372036854775807) (hk : k ≤ 18) :
    Calls Try.prog 36 #[.int .i64 nv, .int .i64 kv] w fun e w' => e = .returned (.agg (cellsT (digF k n))) ∧ Below w.heap.size w w' := by
  subst hnv hkv
  have hz := zeroD
  go_enter Try.func36, Try.ntmps36
  go_wp2
  go_loopw [0, 6] (fun nv pv wr => ∃ p m : Nat, p ≤ k ∧ Hid (m = n / 10 ^ (k - p)) ∧ nv = .int .i64 (m : Nat) ∧ pv = .int .i64 ((p : Int) - 1) ∧ wr = (w.alloc (.cells (cellsT fun _ => 0) 56)).alloc (.cells (cellsT (partF k n p))  56)) (fun _ pv _ => (intOf pv + 1).toNat)
  case atStart => exact ⟨k, n, Nat.le_refl _, by show _ = _; rw [Nat.sub_self, Nat.pow_zero, Nat.div_one], rfl, rfl, by rw [partF_top]⟩
  case round =>
    obtain ⟨p, m, hp, hm, rfl, rfl, rfl⟩ := hrel
    by_cases h0 : p = 0
    · subst h0
      have hg := rowD_new2 w (.cells (cellsT fun _ => 0) 56) (partF k n 0)
      have hg0 := rowD_old (rowD_new w (fun _ => 0)) (.cells (cellsT (partF k n 0))  56)
      have HF := Lib.hid (partF_all k n)
      clear hm
      generalize partF k n 0 = f at *
      go_wp2_with (first
        | (refine wpl_loadD rfl (.tmp 5) rfl _ _ rfl hg ?_)
        | (refine wpl_storeD rfl (.tmp 4) (.tmp 19) rfl _ _ _ rfl rfl hg0 ?_))
      refine bodyPost_ret (results_cell_row rfl _ _ _ _ _ _ _ rfl (rowD_set f hg0) Try.underlying56 rfl (sizeD f)) rfl ⟨by rw [HF.out], ?_⟩
      exact below_row (((Below.refl _ w).alloc (Nat.le_refl _) _).alloc (by simp) _) (Nat.le_refl _) _
    · obtain ⟨q, rfl⟩ : ∃ q, p = q + 1 := ⟨p - 1, by omega⟩
      have hmn : m ≤ 9223372036854775807 := by rw [hm.out]; exact Nat.le_trans (Nat.div_le_self _ _) hn
      have hq : q < k := by omega
      obtain ⟨C, hC⟩ : ∃ C, C = cellsT (partF k n (q + 1)) := ⟨_, rfl⟩
      have HC : Hid (C.setIfInBounds q (.int .i64 (m % 10 : Nat)) = cellsT (partF k n q)) := by
        show _ = _
        rw [hC, cellsD_set, hm.out, show k - (q + 1) = k - 1 - q by omega, partF_step k n q hq]
      have HM : Hid (m / 10 = n / 10 ^ (k - q)) := by
        show _ = _
        rw [hm.out, show k - (q + 1) = k - 1 - q by omega]; exact (div_split n hq).symm
      have hcs : C.size = 18 := by rw [hC, cellsD_size]
      rw [← hC]
      clear hC hm h0
      have e1 : ((q + 1 : Nat) : Int) - 1 = q := by omega
      rw [e1]
      have e2 : (m : Int).tmod 10 = ((m % 10 : Nat) : Int) := by rw [Int.tmod_eq_emod_of_nonneg (by omega)]; omega
      have e3 : (m : Int).tdiv 10 = ((m / 10 : Nat) : Int) := by rw [Int.tdiv_eq_ediv_of_nonneg (by omega)]; omega
      have hq18 : q < 18 := by omega
      clear hz e1
      go_wp2
      exact ⟨⟨q, m / 10, by omega, HM, by push_cast; rfl, rfl, by first | (rw [← HC.out]; done) | (rw [← HC.out]; rfl) | (rw [← HC.out]; push_cast; rfl)⟩, by simp [intOf] <;> omega⟩

theorem joinF_le17 {f : Nat → Nat} (h9 : ∀ j, f j ≤ 9) {k : Nat} (hk : k ≤ 17) : joinF f k < 100000000000000000 := by
  have h1 := joinF_lt (f := f) (k := k) fun j _ => h9 j
  have := Nat.pow_le_pow_right (show 0 < 10 by omega) hk
  omega
theorem joinF_le18 {f : Nat → Nat} (h9 : ∀ j, f j ≤ 9) {k : Nat} (hk : k ≤ 18) : joinF f k < 1000000000000000000 := by
  have h1 := joinF_lt (f := f) (k := k) fun j _ => h9 j
  have := ten_le hk; omega
theorem slice_any (g k : Nat) (W : World) (hk : k ≤ 18) : (Instr.sliceAt 56 (.pointer (some ⟨g, 0, none⟩)) none (some (.int .i64 (k : Int))) none).run Try.prog W = .ok (.slice (some ⟨g, 0, none⟩) k 18) W := by
  have hu : Try.prog.underlying 56 = some (.array 18 2) := Try.underlying56
  have hs : (sizeOf 2).run Try.prog W = .ok 1 W := by kernel_rfl
  have hk0 : (0 : Int) ≤ k := by omega
  have hk1 : (k : Int) ≤ (18 : Nat) := by omega
  simp only [Instr.sliceAt, Instr.sureAddr, Sem.run_bind, run_underlying hu, Result.andThen_ok, Sem.run_pure, Instr.sliceBounds, run_sliceBound _ _ _ _ _ hk0 hk1, hs]
  simp [Addr.add]
set_option maxHeartbeats 800000 in
theorem joined_any (f : Nat → Nat) (k : Nat) (w : World) (C : Array Value) (kv : Int) (hC : C = cellsT f) (hkv : kv = (k : Int)) (hk : k ≤ 18) (h9 : ∀ j, f j ≤ 9) :
    Calls Try.prog 38 #[.agg C, .int .i64 kv] w fun e w' => e = .returned (.int .i64 (joinF f k : Nat)) ∧ Below w.heap.size w w' := by
  subst hkv
  have hcs : C.size = 18 := by rw [hC, cellsD_size]
  have hat : Hid (∀ j, j < 18 → C[j]? = some (.int .i64 (f j : Nat))) := fun j hj => by rw [hC, cellsD_at f hj]
  have hsl : ∀ W g, (Instr.sliceAt 56 (.pointer (some ⟨g, 0, none⟩)) none (some (.int .i64 (k : Int))) none).run Try.prog W = .ok (.slice (some ⟨g, 0, none⟩) k 18) W := fun W g => slice_any g k W hk
  clear hC
  go_enter Try.func38, Try.ntmps38
  go_wp2
  go_loop [5, 11] (fun nv iv => ∃ i m : Nat, i ≤ k ∧ Hid (m = joinF f i) ∧ nv = .int .i64 (m : Nat) ∧ iv = .int .i64 (i : Nat)) (fun _ iv => k - (intOf iv).toNat)
  case atStart => exact ⟨0, 0, Nat.zero_le _, rfl, rfl, rfl⟩
  case round =>
    obtain ⟨i, m, hi, hm, rfl, rfl⟩ := hrel
    by_cases hlt : i < k
    · have hx := hat.out i (by omega)
      have h18 : (i : Int) < 18 := by omega
      have hj := joinF_le17 h9 (k := i) (by omega)
      rw [← hm.out] at hj
      have hf := h9 i
      have HS : Hid (10 * m + f i = joinF f (i + 1)) := by show _ = _; rw [hm.out]; rfl
      clear hm
      generalize f i = x at *
      go_wp2
      go_round
      case rel => exact ⟨i + 1, _, by omega, HS, by go_num, by go_num⟩
      case measure => simp [intOf]; omega
    · obtain rfl : i = k := by omega
      go_wp2
      go_ret
      exact ⟨by rw [← hm.out]; rfl, (Below.refl _ w).alloc (Nat.le_refl _) _⟩

/-- What a step of a range over a mask brings. -/
theorem next_in {W : World} {g : Nat} (hg : W.heap.size = g) {s : ByteArray} {k : Nat} (h : k < s.size) (hp : plc (sat s k)) (ty : TypeId) :
    (Instr.next (.pointer (some ⟨g, 0, none⟩)) true ty).run Try.prog (W.iter s k) = .ok (.tuple #[.bool true, .int .i64 k, .int .i32 ((sat s k).toNat : Nat)]) (W.iter s (k + 1)) := by
  subst hg
  rw [sat_in h] at hp ⊢
  rw [run_next_any W s k ty h, dec_plc h hp]
theorem next_out {W : World} {g : Nat} (hg : W.heap.size = g) (s : ByteArray) (ty : TypeId) :
    (Instr.next (.pointer (some ⟨g, 0, none⟩)) true ty).run Try.prog (W.iter s s.size) = .ok (.tuple #[.bool false]) (W.iter s s.size) := by
  subst hg
  exact run_next_end W s s.size ty (Nat.lt_irrefl _)
theorem iter_cell {X : World} {N : Nat} (hX : X.heap.size = N) (C : Array Value) (T : TypeId) (s : ByteArray) (p j : Nat) : ((X.alloc (.cells C T)).iter s p).cell? ⟨N, j, none⟩ = C[j]? := by
  subst hX; exact World.cell?_alloc2_first C T (.stringIter s p) j
theorem iterPos_at {W : World} {g : Nat} (hg : W.heap.size = g) (s : ByteArray) (p : Nat) : (W.iter s p).iterPos g = p := by subst hg; simp
theorem size_alloc_of {X : World} {N : Nat} (hX : X.heap.size = N) (o : Obj) : (X.alloc o).heap.size = N + 1 := by subst hX; simp

set_option maxHeartbeats 800000 in
theorem agreeing_any (s : ByteArray) (f : Nat → Nat) (w : World) (C : Array Value) (hC : C = cellsT f) (hs : plcs (rv s)) (h18 : s.size ≤ 18) (h9 : ∀ j, f j ≤ 9) :
    Calls Try.prog 40 #[.string s, .agg C] w fun e w' => ∃ k : Nat, e = .returned (.int .i64 k) ∧ k ≤ s.size ∧ (∀ j, j < k → agr (sat s j) (f j)) ∧ (k < s.size → ¬ agr (sat s k) (f k)) ∧ Below w.heap.size w w' := by
  have hcs : C.size = 18 := by rw [hC, cellsD_size]
  have hat : Hid (∀ j, j < 18 → C[j]? = some (.int .i64 (f j : Nat))) := fun j hj => by rw [hC, cellsD_at f hj]
  have HP := Lib.hid (fun k hk => plc_sat hs (k := k) hk)
  clear hC hs
  go_enter Try.func40, Try.ntmps40
  go_wp2
  go_loopw [] (fun wr => ∃ (k : Nat) (X : World), k ≤ s.size ∧ X.heap.size = w.heap.size ∧ wr = (X.alloc (.cells C 56)).iter s k ∧ Hid (∀ j, j < k → agr (sat s j) (f j)) ∧ Below w.heap.size w X) (fun wr => s.size - wr.iterPos (w.heap.size + 1))
  case atStart => exact ⟨0, w, Nat.zero_le _, rfl, rfl, fun j hj => by omega, Below.refl _ _⟩
  case round =>
    obtain ⟨k, X, hk, hX, rfl, hall, hb⟩ := hrel
    have hX1 := size_alloc_of hX (.cells C 56)
    by_cases hlt : k < s.size
    · have hnx := next_in hX1 hlt (HP.out k hlt)
      have hc := (iter_cell hX C 56 s (k + 1) k).trans (hat.out k (by omega))
      have hp := HP.out k hlt
      have HD : Hid (∀ W, Calls Try.prog 37 #[.int .i32 ((sat s k).toNat : Nat), .int .i64 (f k : Nat)] W fun e w' => e = .returned (.int .i64 (dorN (sat s k) (f k) : Nat)) ∧ W = w') := fun W => digitOr_any _ _ _ _ W hp rfl rfl
      have hk18 : (k : Int) < 18 := by omega
      have HA : Hid (dorN (sat s k) (f k) = f k ↔ agr (sat s k) (f k)) := (agr_dorN hp).symm
      have hfk := h9 k
      have HN : Hid (∀ j, j < k + 1 → agr (sat s j) (f j)) ∨ Hid (¬ agr (sat s k) (f k)) := by
        by_cases ha : agr (sat s k) (f k)
        · refine .inl fun j hj => ?_
          rcases Nat.lt_or_ge j k with h | h
          · exact hall.out j h
          · obtain rfl : j = k := by omega
            exact ha
        · exact .inr ha
      clear hp
      rcases HN with HN | HN
      · have he : dorN (sat s k) (f k) = f k := HA.out.2 (HN.out k (by omega))
        rw [he] at HD
        clear he HA
        generalize f k = x at *
        go_wp2_with fail
        go_quiet ((go_at_call 37; exact Calls.quiet_of_same ((HD.out _).mono fun _ _ ⟨p, q⟩ => ⟨p, q.symm⟩)))
        go_wp2
        go_roundw
        case rel => exact ⟨k + 1, X.drewN nq, by omega, hX, rfl, HN.out, hb.trans (below_drewN (Below.refl _ _) nq)⟩
        case measure =>
          have e1 := iterPos_at hX1 s (k + 1)
          have e2 := iterPos_at hX1 s k
          show s.size - ((X.alloc (.cells C 56)).iter s (k + 1)).iterPos _ < _
          rw [e1, e2]; omega
      · have he : ¬ dorN (sat s k) (f k) = f k := fun h => HN.out (HA.out.1 h)
        have HNk := HN
        clear HA
        generalize dorN (sat s k) (f k) = y at *
        go_wp2_with fail
        go_quiet ((go_at_call 37; exact Calls.quiet_of_same ((HD.out _).mono fun _ _ ⟨p, q⟩ => ⟨p, q.symm⟩)))
        go_wp2
        go_ret
        exact ⟨k, rfl, Nat.le_of_lt hlt, hall.out, fun _ => HNk.out, below_drewN ((hb.alloc (by omega) _).alloc (by rw [hX1]; omega) _) nq⟩
    · obtain rfl : k = s.size := by omega
      have hnx := next_out hX1 s
      go_wp2
      go_ret
      refine ⟨_, rfl, Nat.le_refl _, hall.out, fun h => absurd h (Nat.lt_irrefl _), ?_⟩
      exact (hb.alloc (by omega) _).alloc (by rw [hX1]; omega) _
end Go.Proofs.Ythgnoeigjngniaa
