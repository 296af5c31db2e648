/- An array of 18 bytes, made a string: mirrored. -/
import Derived.Test.YthgnoeigjngniaaME
namespace Go.Proofs.Ythgnoeigjngniaa
open Go.RowKit

def cellsU (f : Nat → UInt8) : Array Value := Array.ofFn (n := 18) fun i => .int .u8 ((f i).toNat : Nat)
def updU (f : Nat → UInt8) (i : Nat) (v : UInt8) : Nat → UInt8 := fun j => if j = i then v else f j
theorem cellsU_size (f : Nat → UInt8) : (cellsU f).size = 18 := by simp [cellsU]
theorem cellsU_at (f : Nat → UInt8) {j : Nat} (h : j < 18) : (cellsU f)[j]? = some (.int .u8 ((f j).toNat : Nat)) := by simp [cellsU, h]
theorem cellsU_congr {f g : Nat → UInt8} (h : ∀ j, j < 18 → f j = g j) : cellsU f = cellsU g := by
  apply Array.ext_getElem?
  intro j
  by_cases hj : j < 18
  · rw [cellsU_at _ hj, cellsU_at _ hj, h j hj]
  · rw [Array.getElem?_eq_none (by rw [cellsU_size]; omega), Array.getElem?_eq_none (by rw [cellsU_size]; omega)]
theorem cellsU_set (f : Nat → UInt8) (i : Nat) (v : UInt8) : (cellsU f).setIfInBounds i (.int .u8 (v.toNat : Nat)) = cellsU (updU f i v) := by
  apply Array.ext_getElem?
  intro j
  rw [Array.getElem?_setIfInBounds]
  unfold updU
  by_cases hj : j < 18
  · rw [cellsU_at _ hj, cellsU_at _ hj, cellsU_size]
    by_cases h : i = j
    · subst h; simp [hj]
    · have h' : ¬ j = i := fun e => h e.symm
      simp [h, h']
  · rw [Array.getElem?_eq_none (by rw [cellsU_size]; omega), Array.getElem?_eq_none (by rw [cellsU_size]; omega), cellsU_size]
    split
    · rw [if_neg (by omega)]
    · rfl
def cutU (f : Nat → UInt8) (k : Nat) : Nat → UInt8 := fun j => if j < k then f j else 0
theorem cutU_zero (f : Nat → UInt8) : cellsU (cutU f 0) = cellsU fun _ => 0 := cellsU_congr fun j _ => by unfold cutU; rw [if_neg (by omega)]
theorem cutU_step (f : Nat → UInt8) (k : Nat) : cellsU (updU (cutU f k) k (f k)) = cellsU (cutU f (k + 1)) := cellsU_congr fun j _ => by
  unfold updU cutU
  by_cases h : j = k
  · subst h; rw [if_pos rfl, if_pos (by omega)]
  · rw [if_neg h]
    by_cases h' : j < k
    · rw [if_pos h', if_pos (by omega)]
    · rw [if_neg h', if_neg (by omega)]
theorem infoU : (Try.prog.info? 62).map (fun i => (i.zero, i.size)) = some (some (.agg (cellsU fun _ => 0)), 18) := by kernel_rfl
theorem zeroU : ∀ w, (zeroValue 62).run Try.prog w = .ok (.agg (cellsU fun _ => 0)) w := (zero_of_info infoU).1
theorem sliceU_any (g k : Nat) (W : World) (hk : k ≤ 18) : (Instr.sliceAt 62 (.pointer (some ⟨g, 0, none⟩)) none (some (.int .i64 (k : Int))) none).run Try.prog W = .ok (.slice (some ⟨g, 0, none⟩) k 18) W := by
  have hu : Try.prog.underlying 62 = some (.array 18 5) := Try.underlying62
  have hs : (sizeOf 5).run Try.prog W = .ok 1 W := by kernel_rfl
  have hk0 : (0 : Int) ≤ k := by omega
  have hk1 : (k : Int) ≤ (18 : Nat) := by omega
  simp only [Instr.sliceAt, Instr.sureAddr, Sem.run_bind, run_underlying hu, Result.andThen_ok, Sem.run_pure, Instr.sliceBounds, run_sliceBound _ _ _ _ _ hk0 hk1, hs]
  simp [Addr.add]
/-- The string of the first k bytes. -/
def strU (f : Nat → UInt8) (k : Nat) : ByteArray := ⟨(List.ofFn fun i : Fin k => f i).toArray⟩
theorem strU_size (f : Nat → UInt8) (k : Nat) : (strU f k).size = k := by show (List.ofFn _).toArray.size = k; simp
theorem strU_sat (f : Nat → UInt8) {k j : Nat} (h : j < k) : sat (strU f k) j = f j := by
  rw [sat_in (by rw [strU_size]; exact h)]
  show (List.ofFn fun i : Fin k => f i).toArray[j]'_ = f j
  simp
theorem convU (W : World) (g k : Nat) (f : Nat → UInt8) (hc : ∀ j, j < k → W.cell? ⟨g, j, none⟩ = some (.int .u8 ((f j).toNat : Nat))) :
    (convert 22 9 (.slice (some ⟨g, 0, none⟩) k 18)).run Try.prog W = .ok (.string (strU f k)) W := by
  have := run_convert_bytes_back (P := Try.prog) W 22 9 5 ⟨g, 0, none⟩ 18 (List.ofFn fun i : Fin k => f i) Try.underlying22 Try.underlying5 Try.underlying9 fun j hj => by
    rw [List.length_ofFn] at hj
    rw [Addr.add_lit, Nat.zero_add, hc j hj]
    simp
  rwa [List.length_ofFn] at this
/-- In two new blocks. -/
theorem cell_two (X : World) (D : Array Value) (T : TypeId) (p : Obj) (j : Nat) : ((X.alloc (.cells D T)).alloc p).cell? ⟨X.heap.size, j, none⟩ = D[j]? := World.cell?_alloc2_first D T p j
theorem frozen_two (X : World) (D : Array Value) (T : TypeId) (p : Obj) (j : Nat) : ((X.alloc (.cells D T)).alloc p).frozen? ⟨X.heap.size, j, none⟩ = false := World.frozen?_alloc2_first D T p j
theorem set_two (X : World) (D : Array Value) (T : TypeId) (p : Obj) (j : Nat) (v : Value) : ((X.alloc (.cells D T)).alloc p).setCell ⟨X.heap.size, j, none⟩ v = (X.alloc (.cells (D.setIfInBounds j v) T)).alloc p := by
  rw [World.setCell_alloc_past _ _ _ _ (by simp), World.setCell_alloc_at _ _ _ _ _ (by simp)]

def mirS (s : ByteArray) : ByteArray := strU (fun j => mirB (sat s j)) s.size
theorem mirS_size (s : ByteArray) : (mirS s).size = s.size := strU_size _ _
theorem mirS_sat (s : ByteArray) (j : Nat) (h : j < s.size) : sat (mirS s) j = mirB (sat s j) := strU_sat (fun j => mirB (sat s j)) h
theorem mirS_mask {s : ByteArray} (h : MaskS s) : MaskS (mirS s) :=
  ⟨mir_plcs h.plcs (mirS_size s) (mirS_sat s), by rw [mirS_size]; exact h.pos, by rw [mirS_size]; exact h.le⟩

set_option maxHeartbeats 1600000 in
set_option maxRecDepth 100000 in
theorem mirrored_any (s : ByteArray) (w : World) (hm : MaskS s) :
    Calls Try.prog 43 #[.string s] w fun e w' => e = .returned (.string (mirS s)) ∧ Below w.heap.size w w' := by
  have HP := Lib.hid (fun k hk => plc_sat hm.plcs (k := k) hk)
  have h18 := hm.le
  have hpos := hm.pos
  have hz := zeroU
  have hsl : ∀ W g, (Instr.sliceAt 62 (.pointer (some ⟨g, 0, none⟩)) none (some (.int .i64 (s.size : Int))) none).run Try.prog W = .ok (.slice (some ⟨g, 0, none⟩) s.size 18) W := fun W g => sliceU_any g s.size W h18
  obtain ⟨f, hf⟩ : ∃ f, f = fun j => mirB (sat s j) := ⟨_, rfl⟩
  have HF : Hid (∀ j, f j = mirB (sat s j)) := fun j => by rw [hf]
  have HR : Hid (strU f s.size = mirS s) := by show _ = _; rw [hf]; rfl
  clear hm hf
  go_enter Try.func43, Try.ntmps43
  go_wp2
  clear hz
  go_loopw [] (fun wr => ∃ (k : Nat) (D : Array Value), k ≤ s.size ∧ Hid (D = cellsU (cutU f k)) ∧ wr = (w.alloc (.cells D 62)).alloc (.stringIter s k)) (fun wr => s.size - wr.iterPos (w.heap.size + 1))
  case atStart => exact ⟨0, _, Nat.zero_le _, (cutU_zero f).symm, rfl⟩
  case round =>
    obtain ⟨k, D, hk, hD, rfl⟩ := hrel
    have hX := size_alloc_of (X := w) rfl (.cells D 62)
    by_cases hlt : k < s.size
    · have hp := HP.out k hlt
      have hnx := next_in' hX hlt hp
      have hsk : sat s k = s[k] := sat_in hlt
      have hDs : D.size = 18 := by rw [hD.out, cellsU_size]
      obtain ⟨z, hz⟩ : ∃ z : Nat, D[k]? = some (.int .u8 (z : Nat)) := ⟨_, by rw [hD.out]; exact cellsU_at _ (by omega)⟩
      have hDk := (cell_two w D 62 (.stringIter s (k + 1)) k).trans hz
      have hDf := frozen_two w D 62 (.stringIter s (k + 1)) k
      have hDw := set_two w D 62 (.stringIter s (k + 1)) k
      obtain ⟨D1, hD1⟩ : ∃ D1, D1 = D.setIfInBounds k (.int .u8 88) := ⟨_, rfl⟩
      have hD1k := (cell_two w D1 62 (.stringIter s (k + 1)) k).trans (show D1[k]? = some (.int .u8 88) by rw [hD1, Array.getElem?_setIfInBounds]; simp; omega)
      have hD1f := frozen_two w D1 62 (.stringIter s (k + 1)) k
      have hD1w := set_two w D1 62 (.stringIter s (k + 1)) k
      have hX1 := size_alloc_of (X := w) rfl (.cells D1 62)
      have hk18 : (k : Int) < 18 := by omega
      have hDw' := hDw (.int .u8 88)
      rw [← hD1] at hDw'
      clear hDw hz
      have HFk := HF.out k
      by_cases h88 : (sat s k).toNat = 88
      · have HS : Hid (D1 = cellsU (cutU f (k + 1))) := by
          show _ = _
          have e : ((mirB (sat s k)).toNat : Nat) = 88 := by unfold mirB; rw [if_pos h88]; exact h88
          rw [hD1, hD.out, ← cutU_step, HFk, ← cellsU_set, e]; rfl
        have hb1 : ((s[k].toNat : Nat) : Int) = 88 := by rw [← hsk]; omega
        have hb2 : (((sat s k).toNat : Nat) : Int) = 88 := by omega
        rw [hb2] at hnx
        clear hD hp hsk h88 hD1 HFk hb2
        go_wp2
        go_roundw
        case rel => exact ⟨k + 1, D1, by omega, HS, rfl⟩
        case measure =>
          have e1 := iterPos_at' hX1 s (k + 1)
          have e2 := iterPos_at' hX s k
          rw [e1, e2]; omega
      · have hb1 : ((s[k].toNat : Nat) : Int) ≠ 88 := by rw [← hsk]; omega
        have hpk : 48 ≤ ((s[k].toNat : Nat) : Int) ∧ ((s[k].toNat : Nat) : Int) ≤ 57 := by rw [← hsk]; unfold plc at hp; omega
        obtain ⟨hl1, hl2⟩ := hpk
        obtain ⟨D2, hD2⟩ : ∃ D2, D2 = D1.setIfInBounds k (.int .u8 (105 - ((s[k].toNat : Nat) : Int))) := ⟨_, rfl⟩
        have HS : Hid (D2 = cellsU (cutU f (k + 1))) := by
          show _ = _
          have e : (((mirB (sat s k)).toNat : Nat) : Int) = 105 - ((s[k].toNat : Nat) : Int) := by
            rw [← hsk]
            rw [← hsk] at hl1 hl2
            unfold mirB; rw [if_neg h88, UInt8.toNat_ofNat', Nat.mod_eq_of_lt (by omega)]; omega
          have e2 : D1 = cellsU (updU (cutU f k) k 88) := by rw [hD1, hD.out]; exact cellsU_set _ k 88
          rw [hD2, e2, ← cutU_step, HFk, ← e, cellsU_set]
          exact cellsU_congr fun j _ => by unfold updU; split <;> rfl
        have hD2w := hD1w (.int .u8 (105 - ((s[k].toNat : Nat) : Int)))
        rw [← hD2] at hD2w
        have hX2 := size_alloc_of (X := w) rfl (.cells D2 62)
        clear hD hp hD1 HFk h88 hD1w hD2 hsk
        have hb2 : ((s[k].toNat : Nat) : Int) < 256 := by omega
        have hw8 : IntKind.u8.wrap (105 - ((s[k].toNat : Nat) : Int)) = 105 - ((s[k].toNat : Nat) : Int) := IntWalk.u8_in _ ⟨by omega, by omega⟩
        go_wp2
        go_roundw
        case rel => exact ⟨k + 1, D2, by omega, HS, rfl⟩
        case measure =>
          have e1 := iterPos_at' hX2 s (k + 1)
          have e2 := iterPos_at' hX s k
          rw [e1, e2]; omega
    · obtain rfl : k = s.size := by omega
      have hnx := next_out' hX s
      have hcv := convU ((w.alloc (.cells D 62)).alloc (.stringIter s s.size)) w.heap.size s.size f fun j hj => by
        rw [cell_two, hD.out, cellsU_at _ (by omega)]
        unfold cutU
        rw [if_pos hj]
      clear hD
      go_wp2
      go_ret
      exact ⟨by rw [← HR.out]; rfl, ((Below.refl _ w).alloc (Nat.le_refl _) _).alloc (by simp) _⟩
end Go.Proofs.Ythgnoeigjngniaa
