/- What a range over a string leaves: the iterator's block is new; what a place that is no digit and no X decodes to. -/
import Derived.Test.YthgnoeigjngniaaMOf
import Derived.Laws.RangeAny
namespace Go.Proofs.Ythgnoeigjngniaa
open Go.RowKit

theorem below_iter {B : Nat} {w w' : World} (h : Below B w w') (hB : B ≤ w'.heap.size) (s : ByteArray) (pos : Nat) : Below B w (w'.iter s pos) := h.alloc hB _
/-- What the place at pos decodes to. -/
theorem dec_plc {s : ByteArray} {pos : Nat} (h : pos < s.size) (hp : plc s[pos]) : Utf8.decode s pos = (s[pos].toNat, 1) := decode_ascii s pos h (by unfold plc at hp; omega)
theorem dec_not {s : ByteArray} {pos : Nat} (h : pos < s.size) (hp : ¬ plc s[pos]) : ¬ (Utf8.decode s pos).1 = 88 ∧ ((Utf8.decode s pos).1 < 48 ∨ 57 < (Utf8.decode s pos).1) := by
  by_cases ha : s[pos].toNat < 128
  · rw [decode_ascii s pos h ha]
    unfold plc at hp
    simp only
    omega
  · have := (decode_high s pos h (by omega)).1
    omega
end Go.Proofs.Ythgnoeigjngniaa
