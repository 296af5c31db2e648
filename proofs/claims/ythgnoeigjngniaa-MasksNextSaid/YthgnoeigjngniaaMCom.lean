/- The reference of masks (circaref03): Common; and bytes that are appended one by one and made a string. -/
import Derived.Test.YthgnoeigjngniaaMRef2
namespace Go.Proofs.Ythgnoeigjngniaa
open Go.RowKit

def cellsB (l : List UInt8) : List Value := l.map fun b => Value.int .u8 (b.toNat : Int)
theorem cellsB_snoc (l : List UInt8) (c : UInt8) : cellsB (l ++ [c]) = cellsB l ++ [Value.int .u8 (c.toNat : Int)] := by simp [cellsB]
theorem infoU8 : (Try.prog.info? 5).map (fun i => (i.zero, i.size, i.bytes)) = some (some (.int .u8 0), 1, 1) := by kernel_rfl
theorem conv_own {W : World} {base : Nat} {v : Value} {l : List UInt8} (h : W.ownsRow base 5 1 v l.length (cellsB l)) (hl : 0 < l.length) :
    ∃ A c, v = .slice A l.length c ∧ (convert 22 9 (.slice A l.length c)).run Try.prog W = .ok (.string ⟨l.toArray⟩) W := by
  obtain ⟨g, cap, rfl⟩ : ∃ g cap, v = .slice (some ⟨g, 0, none⟩) l.length cap := by
    rcases h.2 with ⟨_, h0⟩ | ⟨g, cap, cur, hv, _⟩
    · omega
    · exact ⟨g, cap, hv⟩
  refine ⟨_, cap, rfl, run_convert_bytes_back W _ _ _ _ _ _ Try.underlying22 Try.underlying5 Try.underlying9 fun j hj => ?_⟩
  exact h.cells (g := g) rfl j _ (by simp [cellsB, List.getElem?_map, List.getElem?_eq_getElem hj])

/-- The common mask of two strings of one length, the first place first. -/
def comS (a b : ByteArray) : Option (List UInt8) := comL a.data.toList b.data.toList
def strO (o : Option (List UInt8)) : ByteArray := ⟨(o.getD []).toArray⟩
theorem comS_rev (a b : ByteArray) (h : a.size = b.size) : comL (rv a) (rv b) = (comS a b).map List.reverse := comL_rev _ _ (by rw [← size_l, ← size_l]; exact h)
theorem com_take {a b : List UInt8} {k : Nat} (ha : k < a.length) (hb : k < b.length) :
    comL (a.take (k + 1)) (b.take (k + 1)) = match comL (a.take k) (b.take k), com1 a[k] b[k] with | some s, some c => some (s ++ [c]) | _, _ => none := by
  rw [List.take_succ_eq_append_getElem ha, List.take_succ_eq_append_getElem hb, comL_snoc _ _ _ _ (by rw [List.length_take, List.length_take]; omega)]
  cases comL (List.take k a) (List.take k b) <;> cases com1 a[k] b[k] <;> rfl
theorem com_none {a b : List UInt8} {k : Nat} (ha : k ≤ a.length) (hl : a.length = b.length) (h : comL (a.take k) (b.take k) = none) : comL a b = none := by
  induction a generalizing b k with
  | nil => cases b with
    | nil => simp [comL] at h
    | cons => simp at hl
  | cons x a ih => cases b with
    | nil => simp at hl
    | cons y b =>
      cases k with
      | zero => simp [comL] at h
      | succ k =>
        simp only [List.take_succ_cons, comL] at h ⊢
        cases hc : com1 x y with
        | none => cases comL a b <;> rfl
        | some c =>
          rw [hc] at h
          cases ht : comL (a.take k) (b.take k) with
          | none => rw [ih (by simpa using ha) (by simpa using hl) ht]
          | some t => rw [ht] at h; cases h

set_option maxHeartbeats 1600000 in
theorem comR_any (a b : ByteArray) (w : World) (ha : MaskS a) (hb : MaskS b) (hl : a.size = b.size) :
    Calls Try.prog 29 #[.string a, .string b] w fun e w' => e = .returned (.tuple #[.string (strO (comS a b)), .bool (comS a b).isSome]) ∧ Below w.heap.size w w' := by
  obtain ⟨i0, hi, hz0, hz1, hz2⟩ := info_parts infoU8
  have hpos := ha.pos
  have h18 := ha.le
  have hla : a.data.toList.length = a.size := (size_l a).symm
  have hlb : b.data.toList.length = a.size := by rw [hl]; exact (size_l b).symm
  have HLL : Hid (a.data.toList.length = a.size ∧ b.data.toList.length = a.size ∧ a.size = b.size) := ⟨hla, hlb, hl⟩
  clear hla hlb ha hb
  go_enter Try.func29, Try.ntmps29
  go_wp2_with fail
  go_loopw [6, 7] (fun v i wr => ∃ (k : Nat) (l : List UInt8), k ≤ a.size ∧ i = .int .i64 k ∧ l.length = k ∧ Hid (comL (a.data.toList.take k) (b.data.toList.take k) = some l) ∧ wr.ownsRow w.heap.size 5 1 v l.length (cellsB l) ∧ Below w.heap.size w wr) (fun _ i _ => a.size - (intOf i).toNat)
  case atStart => exact ⟨0, [], Nat.zero_le _, rfl, rfl, rfl, World.ownsRow_nil _ _ _ _, Below.refl _ _⟩
  case round =>
    obtain ⟨k, l, hk, rfl, hlk, hc, hown, hbr⟩ := hrel
    by_cases hlt : k < a.size
    · have hltb : k < b.size := by omega
      have HC : Hid (comL (a.data.toList.take (k + 1)) (b.data.toList.take (k + 1)) = match com1 a[k] b[k] with | some c => some (l ++ [c]) | none => none) := by
        have := com_take (a := a.data.toList) (b := b.data.toList) (k := k) (by rw [HLL.out.1]; exact hlt) (by rw [HLL.out.2.1]; exact hlt)
        show _ = _
        rw [this, hc.out]
        have e1 : a.data.toList[k]'(by rw [HLL.out.1]; exact hlt) = a[k] := rfl
        have e2 : b.data.toList[k]'(by rw [HLL.out.2.1]; exact hlt) = b[k] := rfl
        rw [e1, e2]
        cases com1 a[k] b[k] <;> rfl
      by_cases h88 : a[k].toNat = 88
      · have hcom : com1 a[k] b[k] = some b[k] := by unfold com1; rw [if_pos h88]
        have q1 : ((a[k].toNat : Int) == 88) = true := by rw [beq_iff_eq]; omega
        have q3 : ((b[k].toNat : Int) != (b[k].toNat : Int)) = false := by rw [bne_eq_false_iff_eq]
        clear h88
        by_cases hy : b[k].toNat = 88
        · have q2 : ((b[k].toNat : Int) != 88) = false := by rw [bne_eq_false_iff_eq]; omega
          clear hy
          have HS : Hid (comL (a.data.toList.take (k + 1)) (b.data.toList.take (k + 1)) = some (l ++ [b[k]])) := by
            show _ = _
            rw [HC.out, hcom]
          clear hcom
          clear hc HC
          have hl18 : l.length < 18 := by omega
          have hrow : ∀ k, Value.ownBlock _ = some k → w.heap.size ≤ k := fun k e => (hown.lt k e).1
          have HRO := Lib.hid hrow; have hws := hbr.size
          have HL := Lib.hid hlk
          clear hrow hlk
          go_wp2_with (at_builtin; refine wpList_append_own _ rfl _ _ 22 rfl w.heap.size 5 i0 (.int .u8 0) 1 1 Try.underlying22 hi hz0 hz1 hz2 rfl (by decide) _ _ _ rfl (hown.alloc _) ⟨wr.heap.size, 0, none⟩ 1 1 [.int .u8 (b[k].toNat : Int)] rfl rfl ?d1 ?d2 ?d3 ?d4 ?d5 ?_)
          try (case d1 => exact cell_one_new _ _ _)
          case d2 => first | rfl | (intro u hu; rw [List.mem_singleton.1 hu]; rfl)
          case d3 => unfold maxLen; omega
          case d4 => omega
          case d5 => first | omega | (simp; omega)
          intro v' w1 hown1 hg1 _
          rw [← cellsB_snoc] at hown1
          have hl2 : (l ++ [b[k]]).length = l.length + 1 := by simp
          rw [← hl2] at hown1
          have hb1 : Below w.heap.size w w1 := (hbr.alloc (by have := hbr.size; omega) _).grown hg1 (by have := hbr.size; simp; omega) (fun k hk => by have := HRO.out k hk; omega)
          clear hown hg1 hbr
          go_wp2_with fail
          go_roundw
          case rel => exact ⟨k + 1, l ++ [b[k]], by omega, by go_num, by rw [hl2, HL.out], HS, hown1, hb1⟩
          case measure => simp [intOf]; omega
        · have q2 : ((b[k].toNat : Int) != 88) = true := by rw [bne_iff_ne]; omega
          clear hy
          have HS : Hid (comL (a.data.toList.take (k + 1)) (b.data.toList.take (k + 1)) = some (l ++ [b[k]])) := by
            show _ = _
            rw [HC.out, hcom]
          clear hcom
          clear hc HC
          have hl18 : l.length < 18 := by omega
          have hrow : ∀ k, Value.ownBlock _ = some k → w.heap.size ≤ k := fun k e => (hown.lt k e).1
          have HRO := Lib.hid hrow; have hws := hbr.size
          have HL := Lib.hid hlk
          clear hrow hlk
          go_wp2_with (at_builtin; refine wpList_append_own _ rfl _ _ 22 rfl w.heap.size 5 i0 (.int .u8 0) 1 1 Try.underlying22 hi hz0 hz1 hz2 rfl (by decide) _ _ _ rfl (hown.alloc _) ⟨wr.heap.size, 0, none⟩ 1 1 [.int .u8 (b[k].toNat : Int)] rfl rfl ?d1 ?d2 ?d3 ?d4 ?d5 ?_)
          try (case d1 => exact cell_one_new _ _ _)
          case d2 => first | rfl | (intro u hu; rw [List.mem_singleton.1 hu]; rfl)
          case d3 => unfold maxLen; omega
          case d4 => omega
          case d5 => first | omega | (simp; omega)
          intro v' w1 hown1 hg1 _
          rw [← cellsB_snoc] at hown1
          have hl2 : (l ++ [b[k]]).length = l.length + 1 := by simp
          rw [← hl2] at hown1
          have hb1 : Below w.heap.size w w1 := (hbr.alloc (by have := hbr.size; omega) _).grown hg1 (by have := hbr.size; simp; omega) (fun k hk => by have := HRO.out k hk; omega)
          clear hown hg1 hbr
          go_wp2_with fail
          go_roundw
          case rel => exact ⟨k + 1, l ++ [b[k]], by omega, by go_num, by rw [hl2, HL.out], HS, hown1, hb1⟩
          case measure => simp [intOf]; omega
      · have q1 : ((a[k].toNat : Int) == 88) = false := by rw [beq_eq_false_iff_ne]; omega
        by_cases hy : b[k].toNat = 88
        · have hcom : com1 a[k] b[k] = some a[k] := by unfold com1; rw [if_neg h88, if_pos (Or.inl hy)]
          have q2 : ((b[k].toNat : Int) != 88) = false := by rw [bne_eq_false_iff_eq]; omega
          clear h88 hy
          have HS : Hid (comL (a.data.toList.take (k + 1)) (b.data.toList.take (k + 1)) = some (l ++ [a[k]])) := by
            show _ = _
            rw [HC.out, hcom]
          clear hcom
          clear hc HC
          have hl18 : l.length < 18 := by omega
          have hrow : ∀ k, Value.ownBlock _ = some k → w.heap.size ≤ k := fun k e => (hown.lt k e).1
          have HRO := Lib.hid hrow; have hws := hbr.size
          have HL := Lib.hid hlk
          clear hrow hlk
          go_wp2_with (at_builtin; refine wpList_append_own _ rfl _ _ 22 rfl w.heap.size 5 i0 (.int .u8 0) 1 1 Try.underlying22 hi hz0 hz1 hz2 rfl (by decide) _ _ _ rfl (hown.alloc _) ⟨wr.heap.size, 0, none⟩ 1 1 [.int .u8 (a[k].toNat : Int)] rfl rfl ?d1 ?d2 ?d3 ?d4 ?d5 ?_)
          try (case d1 => exact cell_one_new _ _ _)
          case d2 => first | rfl | (intro u hu; rw [List.mem_singleton.1 hu]; rfl)
          case d3 => unfold maxLen; omega
          case d4 => omega
          case d5 => first | omega | (simp; omega)
          intro v' w1 hown1 hg1 _
          rw [← cellsB_snoc] at hown1
          have hl2 : (l ++ [a[k]]).length = l.length + 1 := by simp
          rw [← hl2] at hown1
          have hb1 : Below w.heap.size w w1 := (hbr.alloc (by have := hbr.size; omega) _).grown hg1 (by have := hbr.size; simp; omega) (fun k hk => by have := HRO.out k hk; omega)
          clear hown hg1 hbr
          go_wp2_with fail
          go_roundw
          case rel => exact ⟨k + 1, l ++ [a[k]], by omega, by go_num, by rw [hl2, HL.out], HS, hown1, hb1⟩
          case measure => simp [intOf]; omega
        · have q2 : ((b[k].toNat : Int) != 88) = true := by rw [bne_iff_ne]; omega
          by_cases hxy : b[k] = a[k]
          · have hcom : com1 a[k] b[k] = some a[k] := by unfold com1; rw [if_neg h88, if_pos (Or.inr hxy)]
            have q3 : ((b[k].toNat : Int) != (a[k].toNat : Int)) = false := by rw [hxy, bne_eq_false_iff_eq]
            clear h88 hy hxy
            have HS : Hid (comL (a.data.toList.take (k + 1)) (b.data.toList.take (k + 1)) = some (l ++ [a[k]])) := by
              show _ = _
              rw [HC.out, hcom]
            clear hcom
            clear hc HC
            have hl18 : l.length < 18 := by omega
            have hrow : ∀ k, Value.ownBlock _ = some k → w.heap.size ≤ k := fun k e => (hown.lt k e).1
            have HRO := Lib.hid hrow; have hws := hbr.size
            have HL := Lib.hid hlk
            clear hrow hlk
            go_wp2_with (at_builtin; refine wpList_append_own _ rfl _ _ 22 rfl w.heap.size 5 i0 (.int .u8 0) 1 1 Try.underlying22 hi hz0 hz1 hz2 rfl (by decide) _ _ _ rfl (hown.alloc _) ⟨wr.heap.size, 0, none⟩ 1 1 [.int .u8 (a[k].toNat : Int)] rfl rfl ?d1 ?d2 ?d3 ?d4 ?d5 ?_)
            try (case d1 => exact cell_one_new _ _ _)
            case d2 => first | rfl | (intro u hu; rw [List.mem_singleton.1 hu]; rfl)
            case d3 => unfold maxLen; omega
            case d4 => omega
            case d5 => first | omega | (simp; omega)
            intro v' w1 hown1 hg1 _
            rw [← cellsB_snoc] at hown1
            have hl2 : (l ++ [a[k]]).length = l.length + 1 := by simp
            rw [← hl2] at hown1
            have hb1 : Below w.heap.size w w1 := (hbr.alloc (by have := hbr.size; omega) _).grown hg1 (by have := hbr.size; simp; omega) (fun k hk => by have := HRO.out k hk; omega)
            clear hown hg1 hbr
            go_wp2_with fail
            go_roundw
            case rel => exact ⟨k + 1, l ++ [a[k]], by omega, by go_num, by rw [hl2, HL.out], HS, hown1, hb1⟩
            case measure => simp [intOf]; omega
          · have hcom : com1 a[k] b[k] = none := by unfold com1; rw [if_neg h88, if_neg (by rintro (h | h); exact hy h; exact hxy h)]
            have q3 : ((b[k].toNat : Int) != (a[k].toNat : Int)) = true := by rw [bne_iff_ne]; intro h; exact hxy (UInt8.toNat_inj.1 (by omega))
            have HR : Hid (comS a b = none) := by
              have h1 := HC.out
              rw [hcom] at h1
              exact com_none (k := k + 1) (by rw [HLL.out.1]; omega) (by rw [HLL.out.1, HLL.out.2.1]) h1
            clear h88 hy hxy hcom hc HC hown hlk
            go_wp2_with fail
            go_ret2
            exact ⟨by rw [HR.out]; rfl, hbr⟩
    · obtain rfl : k = a.size := by omega
      have HR : Hid (comS a b = some l) := by
        have h1 := hc.out
        rw [List.take_of_length_le (Nat.le_of_eq HLL.out.1), List.take_of_length_le (Nat.le_of_eq HLL.out.2.1)] at h1
        exact h1
      have hlp : 0 < l.length := by omega
      obtain ⟨A, c, rfl, hconv⟩ := conv_own hown hlp
      have HL := Lib.hid hlk
      clear hown hc hlk
      go_wp2_with fail
      go_ret2
      exact ⟨by rw [HR.out]; rfl, hbr⟩
end Go.Proofs.Ythgnoeigjngniaa
