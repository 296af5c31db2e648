/- The reference of civil days (circaref06): Parse. -/
import Derived.Test.YtiemlpmhhbmfiaaGreatDoorCivTx
import Derived.Test.YtiemlpmhhbmfiaaGreatDoorCivB
namespace Go.Proofs.YtiemlpmhhbmfiaaGreatDoor
open Go.RowKit

theorem ext_l (s : ByteArray) (a b : Nat) (hb : b ≤ s.size) : (s.extract a b).data.toList = (s.data.toList.drop a).take (b - a) := by
  rw [ByteArray.data_extract, Array.toList_extract]
theorem digS_ext (s : ByteArray) (a b : Nat) (hb : b ≤ s.size) : digS (s.extract a b) = ((s.data.toList.drop a).take (b - a)).all digitB := by
  unfold digS; rw [ext_l s a b hb]; rfl
/-- What is asked of the places of a text. -/
theorem form_at (s : ByteArray) (n : Nat) (hn : s.size = n + 6) (h10 : ¬ s.size < 10) : cForm s.data.toList = (decide (s[n + 3]'(by omega) = 45) && decide (s[n]'(by omega) = 45) && digS (s.extract (n + 4) (n + 6)) && digS (s.extract (n + 1) (n + 3)) && yOk (s.data.toList.take n)) := by
  have hl : s.data.toList.length = n + 6 := by rw [← hn]; exact (size_l s).symm
  unfold cForm
  rw [hl, digS_ext s _ _ (by omega), digS_ext s _ _ (by omega)]
  rw [decide_eq_true (show 10 ≤ n + 6 by omega), show n + 6 - 3 = n + 3 by omega, show n + 6 - 6 = n by omega, show n + 6 - 2 = n + 4 by omega, show n + 6 - 5 = n + 1 by omega, show n + 6 - (n + 4) = 2 by omega, show n + 3 - (n + 1) = 2 by omega]
  rw [List.getElem?_eq_getElem (by omega), List.getElem?_eq_getElem (by omega)]
  rw [List.take_of_length_le (show (s.data.toList.drop (n + 4)).length ≤ 2 by rw [List.length_drop]; omega)]
  simp only [Option.some.injEq, Bool.true_and]
  rfl
theorem cpE_no {l : List UInt8} (h : cForm l = false) : cpE l = 5 := by unfold cpE; rw [h]; rfl
theorem cpV_no {l : List UInt8} (h : cpE l ≠ 0) (v : Int) : cpV l v = 0 := if_neg h

set_option maxHeartbeats 3200000 in
set_option maxRecDepth 100000 in
theorem cprsR_bad (s : ByteArray) (w : World) (hs : s.size ≤ 100) (n : Nat) (hn : s.size = n + 6) (h10 : ¬ s.size < 10)
    (hf : s[n + 3]'(by omega) ≠ 45 ∨ s[n]'(by omega) ≠ 45 ∨ digS (s.extract (n + 4) (n + 6)) = false ∨ digS (s.extract (n + 1) (n + 3)) = false) :
    Calls Tryz.prog 30 #[.string s] w fun e w' => e = .returned (.tuple #[.agg #[.int .i64 0, .int .i64 0, .int .i64 0], .int .i64 5]) ∧ Below w.heap.size w w' := by
  have h10' : ¬ (s.size : Int) < 10 := by omega
  have i1 : (s.size : Int) - 3 = ((n + 3 : Nat) : Int) := by omega
  have i2 : (s.size : Int) - 6 = ((n : Nat) : Int) := by omega
  have i3 : (s.size : Int) - 2 = ((n + 4 : Nat) : Int) := by omega
  have i4 : (s.size : Int) - 5 = ((n + 1 : Nat) : Int) := by omega
  have j1 : n + 3 < s.size := by omega
  have j2 : n < s.size := by omega
  have u45 : ∀ c : UInt8, c ≠ 45 → ((c.toNat : Nat) : Int) ≠ 45 := fun c h e => h (UInt8.toNat_inj.1 (by show c.toNat = 45; omega))
  have HD : Hid (∀ x W, x.size ≤ 100 → Calls Tryz.prog 57 #[.string x] W fun e w' => e = .returned (.bool (digS x)) ∧ W = w') := fun x W hx => digR_any x W (by omega)
  have z1 : (s.extract (n + 4) (n + 6)).size ≤ 100 := by rw [ByteArray.size_extract]; omega
  have z2 : (s.extract (n + 1) (n + 3)).size ≤ 100 := by rw [ByteArray.size_extract]; omega
  by_cases h3 : s[n + 3] = 45
  · have h3' : ((s[n + 3].toNat : Nat) : Int) = 45 := by rw [h3]; rfl
    by_cases h6 : s[n] = 45
    · have h6' : ((s[n].toNat : Nat) : Int) = 45 := by rw [h6]; rfl
      cases hd1 : digS (s.extract (n + 4) (n + 6)) with
      | false =>
        clear hf h3 h6 u45
        go_enter Tryz.func30, Tryz.ntmps30
        go_wp2_with (go_at_call 57; refine (HD.out _ _ (by assumption)).mono ?_; rintro e w' ⟨rfl, rfl⟩)
        refine bodyPost_ret (res_civ2 rfl rfl rfl (BkC.new w 0 0 0).three) rfl ⟨rfl, (Below.refl _ w).alloc (Nat.le_refl _) _⟩
      | true =>
        have hd2 : digS (s.extract (n + 1) (n + 3)) = false := by
          rcases hf with h | h | h | h
          · exact absurd h3 h
          · exact absurd h6 h
          · rw [hd1] at h; cases h
          · exact h
        clear hf h3 h6 u45
        go_enter Tryz.func30, Tryz.ntmps30
        go_wp2_with (go_at_call 57; refine (HD.out _ _ (by assumption)).mono ?_; rintro e w' ⟨rfl, rfl⟩)
        refine bodyPost_ret (res_civ2 rfl rfl rfl (BkC.new w 0 0 0).three) rfl ⟨rfl, (Below.refl _ w).alloc (Nat.le_refl _) _⟩
    · have h6' := u45 _ h6
      clear hf h3 h6 u45 HD
      go_enter Tryz.func30, Tryz.ntmps30
      go_wp2_with fail
      refine bodyPost_ret (res_civ2 rfl rfl rfl (BkC.new w 0 0 0).three) rfl ⟨rfl, (Below.refl _ w).alloc (Nat.le_refl _) _⟩
  · have h3' := u45 _ h3
    clear hf h3 u45 HD
    go_enter Tryz.func30, Tryz.ntmps30
    go_wp2_with fail
    refine bodyPost_ret (res_civ2 rfl rfl rfl (BkC.new w 0 0 0).three) rfl ⟨rfl, (Below.refl _ w).alloc (Nat.le_refl _) _⟩
set_option maxRecDepth 100000 in
theorem cprsR_short (s : ByteArray) (w : World) (h10 : s.size < 10) :
    Calls Tryz.prog 30 #[.string s] w fun e w' => e = .returned (.tuple #[.agg #[.int .i64 0, .int .i64 0, .int .i64 0], .int .i64 5]) ∧ Below w.heap.size w w' := by
  go_enter Tryz.func30, Tryz.ntmps30
  go_wp2_with fail
  refine bodyPost_ret (res_civ2 rfl rfl rfl (BkC.new w 0 0 0).three) rfl ⟨rfl, (Below.refl _ w).alloc (Nat.le_refl _) _⟩
end Go.Proofs.YtiemlpmhhbmfiaaGreatDoor
