/- The reference's text of a number, and the law IntsText: it returns true for every input. -/
import Derived.Test.YtjgaoajbcbpbbaaDoorQInt
namespace Go.Proofs.YtjgaoajbcbpbbaaDoor
open Go.RowKit

theorem DS.old_at {w : World} {B : Nat} {A : Option Addr} {n c : Nat} {ds : List Nat} (h : DS w B (.slice A n c) ds) {i : Nat} (hi : i < ds.length) :
    ∃ b o, A = some ⟨b, o, none⟩ ∧ b < B ∧ w.cell? ⟨b, o + i, none⟩ = some (.int .u8 ((ds.getD i 0 : Nat) : Int)) := by
  obtain ⟨A1, c1, hv, _, _, hc⟩ := h.old
  injection hv with h1 h2 h3
  subst h1
  obtain ⟨b, o, ha, hb, hcell⟩ := hc (by omega)
  exact ⟨b, o, ha, hb, hcell i hi⟩
theorem lim_int {n : Int} (h0 : -9223372036854775808 ≤ n) (h1 : n ≤ 9223372036854775807) : n.natAbs < lim := by have := lim_small; omega

/-- The digits of a number, the least first, as the text has them, the greatest first. -/
theorem decDigits_of {ds : List Nat} (hd : dig10 ds) (ht : tidy ds) (hne : ds ≠ []) : Lib.decDigits (valD ds) = ds.reverse.map fun d => UInt8.ofNat (48 + d) := by
  induction ds with
  | nil => exact absurd rfl hne
  | cons x r ih =>
    have hx := hd x (by simp)
    by_cases hr : r = []
    · subst hr
      rw [show valD [x] = x by simp [valD], Lib.decDigits, dif_pos hx]; rfl
    · have hd' : dig10 r := fun d h => hd d (by simp [h])
      have ht' : tidy r := fun y s h => ht y (x :: s) (by rw [h]; rfl)
      have h0 : valD r ≠ 0 := fun h => hr ((tidy_zero ht').1 h)
      rw [Lib.decDigits, dif_neg (by simp only [valD]; omega)]
      have e1 : valD (x :: r) / 10 = valD r := by simp only [valD]; omega
      have e2 : valD (x :: r) % 10 = x := by simp only [valD]; omega
      rw [e1, e2, ih hd' ht' hr]
      simp
def preB (neg : Bool) : List UInt8 := if neg then [45] else []
def txt (neg : Bool) (ds : List Nat) : List UInt8 := preB neg ++ ds.reverse.map fun d => UInt8.ofNat (48 + d)
theorem itoa_of {z : Int} {ds : List Nat} (hd : dig10 ds) (ht : tidy ds) (hv : valD ds = z.natAbs) (hne : ds ≠ []) : Lib.itoa z = txt (decide (z < 0)) ds := by
  unfold Lib.itoa txt preB
  by_cases h : z < 0
  · rw [if_pos h, ← hv, decDigits_of hd ht hne]; simp [h]
  · rw [if_neg h, show z.toNat = valD ds by omega, decDigits_of hd ht hne]; simp [h]
theorem itoa_zero : Lib.itoa 0 = [48] := by unfold Lib.itoa; rw [if_neg (by omega), show (0 : Int).toNat = 0 from rfl, Lib.decDigits]; rfl

theorem txt_len (neg : Bool) (ds : List Nat) : (txt neg ds).length ≤ ds.length + 1 := by unfold txt preB; cases neg <;> simp
theorem txt_step (neg : Bool) (ds : List Nat) (j : Nat) (hj : j < ds.length) : txt neg (ds.drop j) = txt neg (ds.drop (j + 1)) ++ [UInt8.ofNat (48 + ds.getD j 0)] := by
  unfold txt
  rw [List.drop_eq_getElem_cons hj, List.getD_eq_getElem?_getD, List.getElem?_eq_getElem hj]
  simp only [List.reverse_cons, List.map_append, List.map_cons, List.map_nil, List.append_assoc, Option.getD_some]
theorem u8_48 {d : Nat} (h : d < 10) : ((UInt8.ofNat (48 + d)).toNat : Int) = 48 + d := by
  rw [UInt8.toNat_ofNat', Nat.mod_eq_of_lt (by omega)]; omega
def cellsB (l : List UInt8) : List Value := l.map fun b => Value.int .u8 (b.toNat : Int)
theorem cellsB_snoc (l : List UInt8) (c : UInt8) : cellsB (l ++ [c]) = cellsB l ++ [Value.int .u8 (c.toNat : Int)] := by simp [cellsB]
/-- A row of the call's own that reads as bytes, turned into a string. -/
theorem conv_own {W : World} {base : Nat} {v : Value} {l : List UInt8} (h : W.ownsRow base 5 1 v l.length (cellsB l)) (hl : 0 < l.length) :
    ∃ A c, v = .slice A l.length c ∧ (convert 58 9 (.slice A l.length c)).run Tryd.prog W = .ok (.string ⟨l.toArray⟩) W := by
  obtain ⟨g, cap, rfl⟩ : ∃ g cap, v = .slice (some ⟨g, 0, none⟩) l.length cap := by
    rcases h.2 with ⟨_, h0⟩ | ⟨g, cap, cur, hv, _⟩
    · omega
    · exact ⟨g, cap, hv⟩
  refine ⟨_, cap, rfl, run_convert_bytes_back W _ _ _ _ _ _ Tryd.underlying58 Tryd.underlying5 Tryd.underlying9 fun j hj => ?_⟩
  exact h.cells (g := g) rfl j _ (by simp [cellsB, List.getElem?_map, List.getElem?_eq_getElem hj])

set_option maxRecDepth 100000 in
set_option maxHeartbeats 1600000 in
theorem textR_any (v : Value) (z : Int) (w : World) (hv : IsN w v z) (hz : z.natAbs < lim) :
    Calls Tryd.prog 34 #[v] w fun e w' => e = .returned (.string ⟨(Lib.itoa z).toArray⟩) ∧ Below w.heap.size w w' := by
  obtain ⟨ds, h1, h2, h3, h4, h5⟩ := hv.len hz
  obtain ⟨A, c, rfl, hA⟩ := h1.open
  by_cases hne : ds = []
  · have hz0 : z = 0 := by rw [hne] at h4; simp [valD] at h4; omega
    subst hz0 hne
    rw [itoa_zero]
    clear hv h1
    go_enter Tryd.func34, Tryd.ntmps34
    go_wp2_with fail
    go_ret
    exact ⟨rfl, by go_grown⟩
  · have hl : 0 < ds.length := List.length_pos_iff.2 hne
    rw [itoa_of h2 h3 h4 hne]
    obtain ⟨i0, hi, hz0, hz1, hz2⟩ := info_parts infoU8
    clear hv h1
    generalize decide (z < 0) = neg at *
    go_enter Tryd.func34, Tryd.ntmps34
    go_upto_region 4 with fail
    obtain ⟨b0, hb, hs⟩ := one_new w #[Value.bool neg, Value.slice A ds.length c] _ rfl
    have hdW := hA.below hb (Nat.le_refl _)
    obtain ⟨b, o, rfl, hbb, hcell0⟩ := hA.old_at (i := 0) hl
    generalize (w.alloc (Obj.cells #[Value.bool neg, Value.slice (some ⟨b, o, none⟩) ds.length c] 60)) = W at *
    have f0 := b0.cell 0
    have f1 := b0.cell 1
    simp at f0 f1
    have hnz : ((ds.length : Int) == 0) = false := by rw [beq_eq_false_iff_ne]; omega
    clear hcell0
    go_upto_if 10 with fail
    go_cut [3] (fun s3 wx => wx.ownsRow (w.heap.size + 1) 5 1 s3 (txt neg []).length (cellsB (txt neg [])) ∧ Bk wx w.heap.size #[.bool neg, .slice (some ⟨b, o, none⟩) ds.length c] ∧ w.heap.size + 1 ≤ wx.heap.size ∧ Below w.heap.size w wx)
    case first =>
      cases neg
      · go_wp2_with fail
        go_meet
        exact ⟨World.ownsRow_nil _ _ _ _, b0, hs, hb⟩
      · have hown := World.ownsRow_nil W (w.heap.size + 1) 5 1
        go_wp2_with (at_builtin; refine wpList_append_own _ rfl _ _ 58 rfl (w.heap.size + 1) 5 i0 (.int .u8 0) 1 1 Tryd.underlying58 hi hz0 hz1 hz2 rfl (by decide) _ _ _ rfl (hown.alloc _) ⟨W.heap.size, 0, none⟩ 1 1 [.int .u8 45] rfl rfl ?c1 ?c2 ?c3 ?c4 ?c5 ?_)
        case c1 => exact cell_one_new _ _ _
        case c2 => intro u hu; rw [List.mem_singleton.1 hu]; rfl
        case c3 => unfold maxLen; omega
        case c4 => omega
        case c5 => simp; omega
        intro v' w1 hown1 hg1 _
        go_wp2_with fail
        go_meet
        exact ⟨hown1, (b0.alloc _).grown hg1 (by simp [Value.ownBlock]), by have := hg1.size; simp at this; omega, (hb.alloc (by omega) _).grown hg1 (by simp; omega) (fun k hk => by simp [Value.ownBlock] at hk)⟩
    case rest =>
      obtain ⟨hown, r0, hs1, hbr⟩ := hcut
      clear b0 hb hdW f0 f1 hs
      have f1 := r0.cell 1
      simp at f1
      go_wp2_with fail
      go_loopw [3, 4] (fun s3 iv wr => ∃ k : Nat, k ≤ ds.length ∧ iv = .int .i64 ((k : Int) - 1) ∧ wr.ownsRow (w.heap.size + 1) 5 1 s3 (txt neg (ds.drop k)).length (cellsB (txt neg (ds.drop k))) ∧ Bk wr w.heap.size #[.bool neg, .slice (some ⟨b, o, none⟩) ds.length c] ∧ w.heap.size + 1 ≤ wr.heap.size ∧ Below w.heap.size w wr) (fun _ iv _ => (intOf iv + 1).toNat)
      case atStart => exact ⟨ds.length, Nat.le_refl _, rfl, by rw [List.drop_length]; exact hown, r0, hs1, hbr⟩
      case round =>
        obtain ⟨k, hk, rfl, hown, r0, hs1, hbr⟩ := hrel
        rcases k with _ | j
        · rw [List.drop_zero] at hown
          have hlt : 0 < (txt neg ds).length := by unfold txt; rw [List.length_append, List.length_map, List.length_reverse]; omega
          obtain ⟨A, c, rfl, hconv⟩ := conv_own hown hlt
          generalize hT : txt neg ds = tt at *
          have HT := Lib.hid hT
          clear hown r0 hs1 f1 hT
          go_wp2_with fail
          go_ret
          exact ⟨by rw [HT.out]; rfl, hbr⟩
        · have e1 : (((j + 1 : Nat) : Int) - 1) = (j : Int) := by omega
          rw [e1]
          obtain ⟨b', o', he, hbb', hcell⟩ := hA.old_at (i := j) (by omega)
          injection he with he
          injection he with e2 e3 _
          subst e2 e3
          have fj := (hbr.cell (p := ⟨b, o + j, none⟩) hbb).trans hcell
          have h10 := dig10_at h2 j
          have hstep := txt_step neg ds j (by omega)
          have hlen := txt_len neg (ds.drop (j + 1))
          rw [List.length_drop] at hlen
          have hu := u8_48 h10
          have HS : Hid (txt neg (ds.drop j) = txt neg (ds.drop (j + 1)) ++ [UInt8.ofNat (48 + ds.getD j 0)]) := hstep
          have HU : Hid (((UInt8.ofNat (48 + ds.getD j 0)).toNat : Int) = 48 + ((ds.getD j 0 : Nat) : Int)) := hu
          generalize ds.getD j 0 = x at *
          clear e1 hcell hstep hu f1
          have f1 := r0.cell 1
          simp at f1
          generalize hT : txt neg (ds.drop (j + 1)) = T at *
          have hne : ∀ g, g < w.heap.size + 1 → some g ≠ Value.ownBlock _ := fun g hg e => by have := (hown.lt g e.symm).1; omega
          have hrow : ∀ k, Value.ownBlock _ = some k → w.heap.size + 1 ≤ k := fun k e => (hown.lt k e).1
          have HNE := Lib.hid hne
          have HRO := Lib.hid hrow
          have HT := Lib.hid hT
          clear hne hrow hT
          go_wp2_with (at_builtin; refine wpList_append_own _ rfl _ _ 58 rfl (w.heap.size + 1) 5 i0 (.int .u8 0) 1 1 Tryd.underlying58 hi hz0 hz1 hz2 rfl (by decide) _ _ _ rfl (hown.alloc _) ⟨wr.heap.size, 0, none⟩ 1 1 [.int .u8 (48 + (x : Int))] rfl rfl ?d1 ?d2 ?d3 ?d4 ?d5 ?_)
          try (case d1 => exact cell_one_new _ _ _)
          case d2 => first | rfl | (intro u hu; rw [List.mem_singleton.1 hu]; rfl)
          case d3 => unfold maxLen; omega
          case d4 => omega
          case d5 => first | omega | (simp; omega)
          intro v' w1 hown1 hg1 _
          rw [← HU.out, ← cellsB_snoc, ← HS.out] at hown1
          have hl2 : (txt neg (ds.drop j)).length = T.length + 1 := by rw [HS.out]; simp
          rw [← hl2] at hown1
          have q0 := (r0.alloc _).grown hg1 (HNE.out _ (by omega))
          have hb1 : Below w.heap.size w w1 := (hbr.alloc (by omega) _).grown hg1 (by simp; omega) (fun k hk => by have := HRO.out k hk; omega)
          have hs2 : w.heap.size + 1 ≤ w1.heap.size := by have := hg1.size; simp at this; omega
          clear hown hg1 r0 hbr hs1 f1 fj
          go_wp2_with fail
          go_roundw
          case rel => exact ⟨j, by omega, rfl, hown1, q0, hs2, hb1⟩
          case measure => simp [intOf]
end Go.Proofs.YtjgaoajbcbpbbaaDoor
