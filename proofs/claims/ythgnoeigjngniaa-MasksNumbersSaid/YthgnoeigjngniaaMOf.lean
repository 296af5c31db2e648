/- The law's masks: M.Of makes a mask of any bytes; a slice of bytes in memory. -/
import Derived.Test.YthgnoeigjngniaaMCom
import Derived.ChangeSlices
import Derived.Deep.RegionHeld3
namespace Go.Proofs.Ythgnoeigjngniaa
open Go.RowKit

/-- A slice of bytes that lies below B. -/
def BS (w : World) (B : Nat) (v : Value) : Prop :=
  ∃ A n c, v = .slice A n c ∧ n ≤ c ∧ c ≤ maxLen ∧ (0 < n → ∃ b o, A = some ⟨b, o, none⟩ ∧ b < B ∧ ∀ i, i < n → ∃ x : Nat, x < 256 ∧ w.cell? ⟨b, o + i, none⟩ = some (.int .u8 x))
theorem BS.below {w w' : World} {B B' : Nat} {v : Value} (h : BS w B v) (hb : Below B' w w') (hB : B ≤ B') : BS w' B v := by
  obtain ⟨A, n, c, hv, hl, hm, hc⟩ := h
  refine ⟨A, n, c, hv, hl, hm, fun h0 => ?_⟩
  obtain ⟨b, o, ha, hbB, hcell⟩ := hc h0
  refine ⟨b, o, ha, hbB, fun i hi => ?_⟩
  obtain ⟨x, hx, hxc⟩ := hcell i hi
  exact ⟨x, hx, (hb.cell (p := ⟨b, o + i, none⟩) (by show b < B'; omega)).trans hxc⟩
theorem BS.up {w : World} {B B' : Nat} {v : Value} (h : BS w B v) (hB : B ≤ B') : BS w B' v := by
  obtain ⟨A, n, c, hv, hl, hm, hc⟩ := h
  refine ⟨A, n, c, hv, hl, hm, fun h0 => ?_⟩
  obtain ⟨b, o, ha, hbB, hcell⟩ := hc h0
  exact ⟨b, o, ha, by omega, hcell⟩

/-- A block that is known whole. -/
def BkM (w : World) (g : Nat) (cs : Array Value) : Prop := w.heap[g]? = some (.cells cs 24 (0, 0))
section
variable {w w' : World} {g : Nat} {cs : Array Value}
theorem BkM.cell (h : BkM w g cs) (i : Nat) : w.cell? ⟨g, i, none⟩ = cs[i]? := cell_of_row w g i cs _ (0, 0) h
theorem BkM.new (w : World) (cs : Array Value) : BkM (w.alloc (.cells cs 24)) w.heap.size cs := heap_alloc_new w _
end

def conM : ByteArray := ⟨#[48, 49, 50, 51, 52, 53, 54, 55, 56, 57, 88, 88]⟩
theorem con_ext (m : Nat) (h : m < 12) : ∃ c : UInt8, plc c ∧ conM.extract m (m + 1) = ⟨#[c]⟩ := by
  have : ∀ i : Fin 12, ∃ c : UInt8, plc c ∧ conM.extract i (i + 1) = ⟨#[c]⟩ := by
    intro i
    match i with
    | 0 => exact ⟨48, by decide, by decide⟩
    | 1 => exact ⟨49, by decide, by decide⟩
    | 2 => exact ⟨50, by decide, by decide⟩
    | 3 => exact ⟨51, by decide, by decide⟩
    | 4 => exact ⟨52, by decide, by decide⟩
    | 5 => exact ⟨53, by decide, by decide⟩
    | 6 => exact ⟨54, by decide, by decide⟩
    | 7 => exact ⟨55, by decide, by decide⟩
    | 8 => exact ⟨56, by decide, by decide⟩
    | 9 => exact ⟨57, by decide, by decide⟩
    | 10 => exact ⟨88, by decide, by decide⟩
    | 11 => exact ⟨88, by decide, by decide⟩
  exact this ⟨m, h⟩

set_option maxHeartbeats 1600000 in
theorem of_mask (v : Value) (w : World) (hv : BS w w.heap.size v) :
    Calls Try.prog 8 #[.agg #[v]] w fun e w' => ∃ s, e = .returned (.string s) ∧ MaskS s ∧ Below w.heap.size w w' := by
  obtain ⟨A, n, c, rfl, hl, hm, hc⟩ := hv
  have HM := Lib.hid hm
  clear hm
  go_enter Try.func8, Try.ntmps8
  go_wp2_with fail
  have b0 := BkM.new w #[.slice A n c]
  have hb : Below w.heap.size w (w.alloc (Obj.cells #[Value.slice A n c] 24)) := (Below.refl _ _).alloc (Nat.le_refl _) _
  have hs : w.heap.size + 1 ≤ (w.alloc (Obj.cells #[Value.slice A n c] 24)).heap.size := by simp
  generalize w.alloc (Obj.cells #[Value.slice A n c] 24) = W at *
  go_loopw [3, 4] (fun s i wr => ∃ (k d : Nat) (t : ByteArray), k ≤ n ∧ k ≤ 18 ∧ i = .int .i64 k ∧ s = .string t ∧ t.size = k ∧ plcs (rv t) ∧ wr = W.drewN d) (fun _ i _ => n - (intOf i).toNat)
  case atStart => exact ⟨0, 0, _, Nat.zero_le _, Nat.zero_le _, rfl, rfl, rfl, plcs_nil, rfl⟩
  case round =>
    obtain ⟨k, d, t, hk, hk18, rfl, rfl, htk, htp, rfl⟩ := hrel
    have f0 := b0.cell 0
    simp at f0
    by_cases hlt : k < n ∧ k < 18
    · obtain ⟨h1, h2⟩ := hlt
      obtain ⟨b, o, rfl, hbB, hcell⟩ := hc (by omega)
      obtain ⟨x, hx, hxc⟩ := hcell k h1
      have fk := (hb.cell (p := ⟨b, o + k, none⟩) hbB).trans hxc
      have hx12 : x % 12 < 12 := by omega
      obtain ⟨cc, hcc, hext⟩ := con_ext (x % 12) hx12
      have v1 : (x : Int).tmod 12 = ((x % 12 : Nat) : Int) := by rw [Int.tmod_eq_emod_of_nonneg (by omega)]; omega
      have HT : Hid (t.size = k ∧ plcs (rv t)) := ⟨htk, htp⟩
      clear htk htp hcell hc hxc
      generalize x % 12 = y at *
      have i1 : (0 : Int) ≤ (k : Int) := by omega
      have i2 : (k : Int) < (n : Int) := by omega
      have v2 : IntKind.u8.wrap (y : Int) = (y : Int) := wrap_u8 (by omega) (by omega)
      have v3 : IntKind.u8.wrap ((y : Int) + 1) = (y : Int) + 1 := wrap_u8 (by omega) (by omega)
      have hsl : ∀ wx, (Instr.slice 9 (.string ⟨#[48, 49, 50, 51, 52, 53, 54, 55, 56, 57, 88, 88]⟩) (some (.int .u8 (y : Int))) (some (.int .u8 ((y : Int) + 1))) none).run Try.prog wx = .ok (.string ⟨#[cc]⟩) wx := fun wx => by
        have := run_slice_string (P := Try.prog) wx 9 conM .u8 .u8 (y : Int) ((y : Int) + 1) Try.underlying9 (by omega) (by omega) (by show (y : Int) + 1 ≤ 12; omega)
        rw [show (y : Int).toNat = y by omega, show ((y : Int) + 1).toNat = y + 1 by omega, hext] at this
        exact this
      have hs1 : (⟨#[cc]⟩ : ByteArray).size = 1 := rfl
      have hs3 : t.size ≤ 18 := by rw [HT.out.1]; omega
      have hs4 : ¬ 9223372036854775807 < t.size + 1 := by omega
      go_upto_region 5 with fail
      go_region_held3 (fun w' => w'.cell? ⟨w.heap.size, 0, none⟩ = some (.slice (some ⟨b, o, none⟩) n c) ∧ w'.cell? ⟨b, o + k, none⟩ = some (.int .u8 x)) (go_keep) (fail)
      all_goals go_wp2_with fail
      go_roundw
      case rel =>
        obtain ⟨g1, g2⟩ := HT.out
        refine ⟨k + 1, d + 1, t ++ ⟨#[cc]⟩, by omega, by omega, by go_num, rfl, by rw [ByteArray.size_append, hs1, g1], ?_, rfl⟩
        have : rv (t ++ ⟨#[cc]⟩) = cc :: rv t := by unfold rv; simp
        rw [this]
        exact g2.cons hcc
      case measure => simp [intOf]; omega
    · have hW : Below w.heap.size w (W.drewN d) := below_drewN hb d
      have h4 : (k : Int) < (n : Int) → ¬ (k : Int) < 18 := by omega
      by_cases h0 : k = 0
      · have he : t.toList.isEmpty = true := by
          rw [ByteArray.toList_eq]
          have : t.data.toList.length = 0 := by rw [← size_l]; omega
          rw [List.length_eq_zero_iff.1 this]; rfl
        have hn0 : ¬ (k : Int) < (n : Int) := by omega
        clear hlt htk htp hk hk18 hc h4
        go_wp2_with fail
        go_ret
        refine ⟨_, rfl, ⟨?_, by decide, by decide⟩, hW⟩
        intro c hc
        have : c = 88 := by simpa [rv] using hc
        subst this; decide
      · have he : t.toList.isEmpty = false := by
          rw [ByteArray.toList_eq]
          cases hx : t.data.toList with
          | nil => have : t.size = 0 := by rw [size_l, hx]; rfl
                   omega
          | cons => rfl
        have HT : Hid (MaskS t) := ⟨htp, by omega, by omega⟩
        clear htk htp hc h0
        by_cases hkn : (k : Int) < (n : Int)
        all_goals
          first | have hk1 := h4 hkn | skip
          clear hlt h4
          go_wp2_with fail
          go_ret
          exact ⟨_, rfl, HT.out, hW⟩
end Go.Proofs.Ythgnoeigjngniaa
