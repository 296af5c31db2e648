/- Common of package masks. -/
import Derived.Test.YthgnoeigjngniaaMF
namespace Go.Proofs.Ythgnoeigjngniaa
open Go.RowKit

def lc (l : List UInt8) : Nat → UInt8 := fun j => l.getD j 0
theorem lc_nil : cellsU (lc []) = cellsU fun _ => 0 := cellsU_congr fun j _ => by simp [lc]
theorem lc_snoc (l : List UInt8) (c : UInt8) : cellsU (updU (lc l) l.length c) = cellsU (lc (l ++ [c])) := cellsU_congr fun j _ => by
  unfold updU lc
  rw [List.getD_eq_getElem?_getD, List.getD_eq_getElem?_getD]
  by_cases h : j = l.length
  · subst h; simp
  · rw [if_neg h]
    by_cases h' : j < l.length
    · rw [List.getElem?_append_left h']
    · rw [List.getElem?_eq_none (by omega), List.getElem?_eq_none (by simp; omega)]
theorem lc_str (l : List UInt8) (k : Nat) (h : l.length = k) : strU (lc l) k = ⟨l.toArray⟩ := by
  subst h
  unfold strU
  congr 2
  apply List.ext_getElem (by simp)
  intro i h1 h2
  simp [lc]

theorem maskB {s : ByteArray} (h : MaskS s) : s.size ≤ 18 := h.le
set_option maxHeartbeats 3200000 in
set_option maxRecDepth 100000 in
theorem com_ok (a b : ByteArray) (w : World) (ha : MaskS a) (hb : MaskS b) (hl : a.size = b.size)
    (HC : Hid (∀ x, x = a ∨ x = b → ∀ W, Calls Try.prog 15 #[.string x] W fun e w' => e = .returned (.int .i64 0) ∧ Below W.heap.size W w')) :
    Calls Try.prog 28 #[.string a, .string b] w fun e w' => e = .returned (.tuple #[.string (strO (comS a b)), .int .i64 (if (comS a b).isSome then 0 else 16)]) ∧ Below w.heap.size w w' := by
  obtain ⟨E, hE⟩ : ∃ E : Int, E = if (comS a b).isSome then 0 else 16 := ⟨_, rfl⟩
  rw [← hE]
  have HE := Lib.hid hE
  clear hE
  have h18 := ha.le
  have hpos := ha.pos
  have hla : a.data.toList.length = a.size := (size_l a).symm
  have hlb : b.data.toList.length = a.size := by rw [hl]; exact (size_l b).symm
  have HLL : Hid (a.data.toList.length = a.size ∧ b.data.toList.length = a.size ∧ a.size = b.size) := ⟨hla, hlb, hl⟩
  have HP := Lib.hid (fun k hk => plc_sat ha.plcs (k := k) hk)
  have hz := zeroU
  have hsl : ∀ W g, (Instr.sliceAt 62 (.pointer (some ⟨g, 0, none⟩)) none (some (.int .i64 (a.size : Int))) none).run Try.prog W = .ok (.slice (some ⟨g, 0, none⟩) a.size 18) W := fun W g => sliceU_any g a.size W h18
  clear hla hlb ha hb
  go_enter Try.func28, Try.ntmps28
  go_wp2_with (first
    | (go_at_call 15; refine (HC.out _ (by first | exact .inl rfl | exact .inr rfl) _).mono ?_; rintro e w1 ⟨rfl, hb⟩))
  have HBW := Lib.hid (show Below w.heap.size w w1 from bthen (by assumption) hb)
  have hszb : b.size ≤ 18 := by omega
  clear hb HC hz
  have HL := Lib.hid hl
  clear hl
  have hN : w.heap.size ≤ w1.heap.size := HBW.out.size
  generalize hNe : w1.heap.size = N at *
  have HX0 : Hid (w1.heap.size = N) := hNe
  clear hNe
  go_loopw [] (fun wr => ∃ (k : Nat) (X : World) (D : Array Value) (l : List UInt8), k ≤ a.size ∧ Hid (X.heap.size = N) ∧ l.length = k ∧ Hid (comL (a.data.toList.take k) (b.data.toList.take k) = some l) ∧ Hid (D = cellsU (lc l)) ∧ Below w.heap.size w X ∧ wr = (X.alloc (.cells D 62)).alloc (.stringIter a k)) (fun wr => a.size - wr.iterPos (N + 1))
  case atStart => exact ⟨0, w1, _, [], Nat.zero_le _, HX0, rfl, rfl, lc_nil.symm, HBW.out, rfl⟩
  case round =>
    obtain ⟨k, X, D, l, hk, hX, hlk, hc, hD, hbX, rfl⟩ := hrel
    have hX1 := size_alloc_of hX.out (.cells D 62)
    by_cases hlt : k < a.size
    · have hltb : k < b.size := by have := HL.out; omega
      have hp := HP.out k hlt
      have hnx := next_in' hX1 hlt hp
      have HCm : Hid (comL (a.data.toList.take (k + 1)) (b.data.toList.take (k + 1)) = match com1 a[k] b[k] with | some c => some (l ++ [c]) | none => none) := by
        have := com_take (a := a.data.toList) (b := b.data.toList) (k := k) (by rw [HLL.out.1]; exact hlt) (by rw [HLL.out.2.1]; exact hlt)
        show _ = _
        rw [this, hc.out]
        have e1 : a.data.toList[k]'(by rw [HLL.out.1]; exact hlt) = a[k] := rfl
        have e2 : b.data.toList[k]'(by rw [HLL.out.2.1]; exact hlt) = b[k] := rfl
        rw [e1, e2]
        cases com1 a[k] b[k] <;> rfl
      have hDs : D.size = 18 := by rw [hD.out, cellsU_size]
      obtain ⟨z, hz⟩ : ∃ z : Nat, D[k]? = some (.int .u8 (z : Nat)) := ⟨_, by rw [hD.out]; exact cellsU_at _ (by omega)⟩
      have hDS : Hid (∀ c : UInt8, D.setIfInBounds k (.int .u8 (c.toNat : Nat)) = cellsU (lc (l ++ [c]))) := fun c => by rw [hD.out, ← hlk, cellsU_set, lc_snoc]
      have hk18 : (k : Int) < 18 := by omega
      have HLK := Lib.hid hlk
      clear hD hc hp hlk
      have hcell : ∀ Y : World, Y.heap.size = N → ((Y.alloc (.cells D 62)).alloc (.stringIter a (k + 1))).cell? ⟨N, k, none⟩ = some (.int .u8 (z : Nat)) ∧ ((Y.alloc (.cells D 62)).alloc (.stringIter a (k + 1))).frozen? ⟨N, k, none⟩ = false ∧ ∀ v, ((Y.alloc (.cells D 62)).alloc (.stringIter a (k + 1))).setCell ⟨N, k, none⟩ v = (Y.alloc (.cells (D.setIfInBounds k v) 62)).alloc (.stringIter a (k + 1)) := fun Y hY => by
        subst hY
        exact ⟨(cell_two Y D 62 (.stringIter a (k + 1)) k).trans hz, frozen_two Y D 62 (.stringIter a (k + 1)) k, set_two Y D 62 (.stringIter a (k + 1)) k⟩
      have HCE := Lib.hid hcell
      clear hcell hz
      by_cases h88 : a[k].toNat = 88
      · have hcom : com1 a[k] b[k] = some b[k] := by unfold com1; rw [if_pos h88]
        have q1 : ((a[k].toNat : Int) == 88) = true := by rw [beq_iff_eq]; omega
        have HS : Hid (comL (a.data.toList.take (k + 1)) (b.data.toList.take (k + 1)) = some (l ++ [b[k]])) := by
          show _ = _
          rw [HCm.out, hcom]
        obtain ⟨c1, c2, c3⟩ := HCE.out X hX.out
        clear HCm hcom h88 HP HBW HX0
        go_wp2_with fail
        go_roundw
        case rel => exact ⟨k + 1, X, _, l ++ [b[k]], by omega, hX, by rw [List.length_append, HLK.out]; rfl, HS, hDS.out b[k], hbX, rfl⟩
        case measure =>
          have e1 := iterPos_at' (size_alloc_of hX.out (.cells (D.setIfInBounds k (.int .u8 ((b[k].toNat : Nat) : Int))) 62)) a (k + 1)
          have e2 := iterPos_at' hX1 a k
          rw [e1, e2]; omega
      · have q1 : ((a[k].toNat : Int) == 88) = false := by rw [beq_eq_false_iff_ne]; omega
        by_cases hy : b[k].toNat = 88
        · have hcom : com1 a[k] b[k] = some a[k] := by unfold com1; rw [if_neg h88, if_pos (Or.inl hy)]
          have q2 : ((b[k].toNat : Int) == 88) = true := by rw [beq_iff_eq]; omega
          have HS : Hid (comL (a.data.toList.take (k + 1)) (b.data.toList.take (k + 1)) = some (l ++ [a[k]])) := by
            show _ = _
            rw [HCm.out, hcom]
          clear HCm hcom h88 hy HP HBW HX0
          go_wp2_with fail
          go_quiet (fail)
          obtain ⟨c1, c2, c3⟩ := HCE.out (X.drewN nq) hX.out
          have hbX2 := below_drewN hbX nq
          have hX2 : Hid ((X.drewN nq).heap.size = N) := hX
          have hwe : ((X.alloc (.cells D 62)).alloc (.stringIter a (k + 1))).drewN nq = ((X.drewN nq).alloc (.cells D 62)).alloc (.stringIter a (k + 1)) := rfl
          rw [hwe]
          clear hwe
          go_wp2_with fail
          go_roundw
          case rel => exact ⟨k + 1, X.drewN nq, _, l ++ [a[k]], by omega, hX2, by rw [List.length_append, HLK.out]; rfl, HS, hDS.out a[k], hbX2, rfl⟩
          case measure =>
            have e1 := iterPos_at' (size_alloc_of hX2.out (.cells (D.setIfInBounds k (.int .u8 ((a[k].toNat : Nat) : Int))) 62)) a (k + 1)
            have e2 := iterPos_at' hX1 a k
            rw [e1, e2]; omega
        · have q2 : ((b[k].toNat : Int) == 88) = false := by rw [beq_eq_false_iff_ne]; omega
          by_cases hxy : b[k] = a[k]
          · have hcom : com1 a[k] b[k] = some a[k] := by unfold com1; rw [if_neg h88, if_pos (Or.inr hxy)]
            have q3 : ((b[k].toNat : Int) == (a[k].toNat : Int)) = true := by rw [hxy, beq_iff_eq]
            have HS : Hid (comL (a.data.toList.take (k + 1)) (b.data.toList.take (k + 1)) = some (l ++ [a[k]])) := by
              show _ = _
              rw [HCm.out, hcom]
            clear HCm hcom h88 hy hxy HP HBW HX0
            go_wp2_with fail
            go_quiet (fail)
            obtain ⟨c1, c2, c3⟩ := HCE.out (X.drewN nq) hX.out
            have hbX2 := below_drewN hbX nq
            have hX2 : Hid ((X.drewN nq).heap.size = N) := hX
            have hwe : ((X.alloc (.cells D 62)).alloc (.stringIter a (k + 1))).drewN nq = ((X.drewN nq).alloc (.cells D 62)).alloc (.stringIter a (k + 1)) := rfl
            rw [hwe]
            clear hwe
            go_wp2_with fail
            go_roundw
            case rel => exact ⟨k + 1, X.drewN nq, _, l ++ [a[k]], by omega, hX2, by rw [List.length_append, HLK.out]; rfl, HS, hDS.out a[k], hbX2, rfl⟩
            case measure =>
              have e1 := iterPos_at' (size_alloc_of hX2.out (.cells (D.setIfInBounds k (.int .u8 ((a[k].toNat : Nat) : Int))) 62)) a (k + 1)
              have e2 := iterPos_at' hX1 a k
              rw [e1, e2]; omega
          · have hcom : com1 a[k] b[k] = none := by unfold com1; rw [if_neg h88, if_neg (by rintro (h | h); exact hy h; exact hxy h)]
            have q3 : ((b[k].toNat : Int) == (a[k].toNat : Int)) = false := by rw [beq_eq_false_iff_ne]; intro h; exact hxy (UInt8.toNat_inj.1 (by omega))
            have HR : Hid (comS a b = none) := by
              have h1 := HCm.out
              rw [hcom] at h1
              exact com_none (k := k + 1) (by rw [HLL.out.1]; omega) (by rw [HLL.out.1, HLL.out.2.1]) h1
            clear HCm hcom h88 hy hxy HP HBW HX0 HLL
            go_wp2_with fail
            go_quiet (fail)
            have hbX2 := below_drewN hbX nq
            go_wp2_with fail
            go_ret2
            refine ⟨by rw [HE.out, HR.out]; rfl, ?_⟩
            exact below_drewN ((hbX.alloc (by rw [hX.out]; exact hN) _).alloc (by rw [hX1]; omega) _) nq
    · obtain rfl : k = a.size := by omega
      have hnx := next_out' hX1 a
      have HR : Hid (comS a b = some l) := by
        have h1 := hc.out
        rw [List.take_of_length_le (Nat.le_of_eq HLL.out.1), List.take_of_length_le (Nat.le_of_eq HLL.out.2.1)] at h1
        exact h1
      have hcv := convU ((X.alloc (.cells D 62)).alloc (.stringIter a a.size)) N a.size (lc l) fun j hj => by
        have := cell_two X D 62 (.stringIter a a.size) j
        rw [hX.out] at this
        rw [this, hD.out, cellsU_at _ (by omega)]
      rw [lc_str l a.size hlk] at hcv
      clear hD hc hlk HP HBW HX0 HLL
      go_wp2_with fail
      go_ret2
      exact ⟨by rw [HE.out, HR.out]; rfl, (hbX.alloc (by rw [hX.out]; exact hN) _).alloc (by rw [hX1]; omega) _⟩

theorem common_any (s : ByteArray) (w : World) (t : ByteArray) (hs : s.size ≤ maxLen) (ht : t.size ≤ maxLen) :
    Calls Try.prog 28 #[.string s, .string t] w fun e w' => e = .returned (.tuple #[.string (comV s t), .int .i64 (comE s t)]) ∧ Below w.heap.size w w' := by
  by_cases h : chkS s = 0
  · by_cases h' : chkS t = 0
    · have HC : Hid (∀ x, x = s ∨ x = t → ∀ W, Calls Try.prog 15 #[.string x] W fun e w' => e = .returned (.int .i64 0) ∧ Below W.heap.size W w') := fun x hx W => by
        rcases hx with rfl | rfl
        · have := check_any x W hs; rwa [h] at this
        · have := check_any x W ht; rwa [h'] at this
      by_cases hl : s.size = t.size
      · have e1 : comV s t = strO (comS s t) := if_pos ⟨h, h', hl⟩
        have e2 : comE s t = if (comS s t).isSome then 0 else 16 := by unfold comE; rw [if_neg (by simp [h]), if_neg (by simp [h']), if_pos hl]
        rw [e1, e2]
        exact com_ok s t w (mask_of h) (mask_of h') hl HC
      · have e1 : comV s t = ⟨#[]⟩ := if_neg fun hh => hl hh.2.2
        have e2 : comE s t = 1 := by unfold comE; rw [if_neg (by simp [h]), if_neg (by simp [h']), if_neg hl]
        rw [e1, e2]
        have hl' : ((s.size : Nat) : Int) ≠ t.size := by omega
        have hm := maskB (mask_of h)
        have hm' := maskB (mask_of h')
        clear e1 e2 h h' hl
        go_enter Try.func28, Try.ntmps28
        go_wp2_with (first
          | (go_at_call 15; refine (HC.out _ (by first | exact .inl rfl | exact .inr rfl) _).mono ?_; rintro e w1 ⟨rfl, hb⟩))
        go_ret2
        exact ⟨rfl, bthen (by assumption) hb⟩
    · have e1 : comV s t = ⟨#[]⟩ := if_neg fun hh => h' hh.2.1
      have e2 : comE s t = chkS t := by unfold comE; rw [if_neg (by simp [h]), if_pos h']
      rw [e1, e2]
      have HC : Hid (∀ x, x = s ∨ x = t → ∀ W, Calls Try.prog 15 #[.string x] W fun e w' => e = .returned (.int .i64 (chkS x)) ∧ Below W.heap.size W w') := fun x hx W => by
        rcases hx with rfl | rfl
        · exact check_any x W hs
        · exact check_any x W ht
      clear e1 e2
      go_enter Try.func28, Try.ntmps28
      go_wp2_with (first
        | (go_at_call 15; refine (HC.out _ (by first | exact .inl rfl | exact .inr rfl) _).mono ?_; rintro e w1 ⟨rfl, hb⟩))
      go_ret2
      exact ⟨rfl, bthen (by assumption) hb⟩
  · have e1 : comV s t = ⟨#[]⟩ := if_neg fun hh => h hh.1
    have e2 : comE s t = chkS s := by unfold comE; rw [if_pos h]
    rw [e1, e2]
    have HC : Hid (∀ W, Calls Try.prog 15 #[.string s] W fun e w' => e = .returned (.int .i64 (chkS s)) ∧ Below W.heap.size W w') := fun W => check_any s W hs
    clear e1 e2
    go_enter Try.func28, Try.ntmps28
    go_wp2_with (go_at_call 15; refine (HC.out _).mono ?_; rintro e w1 ⟨rfl, hb⟩)
    go_ret2
    exact ⟨rfl, hb⟩
end Go.Proofs.Ythgnoeigjngniaa
