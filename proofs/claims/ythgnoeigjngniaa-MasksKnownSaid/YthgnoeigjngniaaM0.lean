/- What all texts on masks share: a string as a mask, the last place first; what a call leaves of the memory. -/
import Derived.Test.YthgnoeigjngniaaRows
import Derived.Test.YthgnoeigjngniaaMask
import Derived.WalkKit
import Derived.WalkSpells
import Derived.WalkLawsBesides
import Derived.Handy
import Derived.Lib.Hide
import Derived.Deep.QuietTactic
import Derived.BigQuiet
import Derived.WalkSmall
namespace Go.Proofs.Ythgnoeigjngniaa
open Go.RowKit

theorem size_l (s : ByteArray) : s.size = s.data.toList.length := by rw [Array.length_toList]; rfl

theorem ret_b {a b : Bool} (h : a = b) : Ending.returned (.bool a) = .returned (.bool b) := by rw [h]
theorem ret_i {k : IntKind} {a b : Int} (h : a = b) : Ending.returned (.int k a) = .returned (.int k b) := by rw [h]
theorem ret_2 {k k' : IntKind} {a b c d : Int} (h : a = b) (h' : c = d) : Ending.returned (.tuple #[.int k a, .int k' c]) = .returned (.tuple #[.int k b, .int k' d]) := by rw [h, h']

/-- The first k places of a string, the last of them first. -/
def pre (s : ByteArray) (k : Nat) : List UInt8 := (s.data.toList.take k).reverse
def rv (s : ByteArray) : List UInt8 := s.data.toList.reverse
theorem pre_zero (s : ByteArray) : pre s 0 = [] := by simp [pre]
theorem pre_all (s : ByteArray) : pre s s.size = rv s := by
  unfold pre rv
  rw [List.take_of_length_le (by rw [size_l]; exact Nat.le_refl _)]
theorem pre_succ (s : ByteArray) (k : Nat) (h : k < s.size) : pre s (k + 1) = s[k] :: pre s k := by
  unfold pre
  rw [List.take_succ_eq_append_getElem (by simpa using h)]
  simp only [List.reverse_append, List.reverse_cons, List.reverse_nil, List.nil_append, List.cons_append]
  rfl
theorem pre_len (s : ByteArray) (k : Nat) (h : k ≤ s.size) : (pre s k).length = k := by
  unfold pre
  rw [List.length_reverse, List.length_take]
  rw [size_l] at h; omega
theorem rv_len (s : ByteArray) : (rv s).length = s.size := by rw [← pre_all, pre_len _ _ (Nat.le_refl _)]
theorem plc_at {s : ByteArray} (h : plcs (rv s)) (k : Nat) (hk : k < s.size) : plc s[k] := by
  refine h _ ?_
  unfold rv
  rw [List.mem_reverse]
  have : s[k] = s.data.toList[k]'(by simpa using hk) := rfl
  rw [this]
  exact List.getElem_mem _
theorem plcs_pre {s : ByteArray} (h : plcs (rv s)) (k : Nat) : plcs (pre s k) := fun c hc => h c (by
  unfold pre at hc
  unfold rv
  rw [List.mem_reverse] at hc ⊢
  exact List.mem_of_mem_take hc)
/-- A string that is a mask. -/
structure MaskS (s : ByteArray) : Prop where
  plcs : plcs (rv s)
  pos : 1 ≤ s.size
  le : s.size ≤ 18
theorem ten_le {k : Nat} (h : k ≤ 18) : 10 ^ k ≤ 1000000000000000000 := by
  have := Nat.pow_le_pow_right (show 0 < 10 by omega) h; omega
theorem MaskS.cnt {s : ByteArray} (h : MaskS s) : cntR (rv s) ≤ 1000000000000000000 := by
  have h1 := cnt_le (rv s)
  rw [rv_len] at h1
  have := ten_le h.le; omega
theorem MaskS.nth {s : ByteArray} (h : MaskS s) (i : Nat) : nthR (rv s) i < 1000000000000000000 := by
  have h1 := nth_lt h.plcs i
  rw [rv_len] at h1
  have := ten_le h.le; omega
end Go.Proofs.Ythgnoeigjngniaa
