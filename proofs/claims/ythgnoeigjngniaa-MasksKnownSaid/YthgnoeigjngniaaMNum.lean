/- The law MasksNumbers: it returns true for every mask and any two numbers. -/
import Derived.Test.YthgnoeigjngniaaMLives
namespace Go.Proofs.Ythgnoeigjngniaa
open Go.RowKit

section
variable {s : ByteArray} {w X : World}
theorem MaskS.max (h : MaskS s) : s.size ≤ maxLen := by have := h.le; unfold maxLen; omega
theorem c_same {f : FuncId} {args : Array Value} {u : Value} (h : Ok w X) (hc : Calls Try.prog f args X fun x w' => x = .returned u ∧ X = w') :
    Calls Try.prog f args X fun x w' => x = .returned u ∧ Ok w w' := hc.mono fun _ _ ⟨h1, h2⟩ => ⟨h1, h2 ▸ h⟩
theorem c_count (hS : MaskS s) (h : Ok w X) : Calls Try.prog 9 #[.string s] X fun e w' => e = .returned (.tuple #[.int .i64 (cntR (rv s) : Nat), .int .i64 0]) ∧ Ok w w' := c_eq h (mk2_ok hS _ _) (count_any s X hS.max)
theorem c_least (hS : MaskS s) (h : Ok w X) : Calls Try.prog 10 #[.string s] X fun e w' => e = .returned (.tuple #[.int .i64 (nthR (rv s) 0 : Nat), .int .i64 0]) ∧ Ok w w' := c_eq h (mk2_ok hS _ _) (least_any s X hS.max)
theorem c_great (hS : MaskS s) (h : Ok w X) : Calls Try.prog 11 #[.string s] X fun e w' => e = .returned (.tuple #[.int .i64 (nthR (rv s) (cntR (rv s) - 1) : Nat), .int .i64 0]) ∧ Ok w w' := c_eq h (mk2_ok hS _ _) (great_any s X hS.max)
theorem c_check (hS : MaskS s) (h : Ok w X) : Calls Try.prog 15 #[.string s] X fun e w' => e = .returned (.int .i64 0) ∧ Ok w w' := c_eq h (by rw [(chkS_ok s).2 hS]) (check_any s X hS.max)
theorem c_nth (hS : MaskS s) (h : Ok w X) (n : Int) (h0 : -9223372036854775808 ≤ n) (h1 : n ≤ 9223372036854775807) : Calls Try.prog 16 #[.string s, .int .i64 n] X fun e w' => e = .returned (.tuple #[.int .i64 (nthV (rv s) n), .int .i64 (nthE (rv s) n)]) ∧ Ok w w' := c_eq h (mk2_ok hS _ _) (nth_any s n X hS.max h0 h1)
theorem c_index (hS : MaskS s) (h : Ok w X) (n : Int) (h0 : -9223372036854775808 ≤ n) (h1 : n ≤ 9223372036854775807) : Calls Try.prog 18 #[.string s, .int .i64 n] X fun e w' => e = .returned (.tuple #[.int .i64 (idxV (rv s) n), .int .i64 (idxE (rv s) n)]) ∧ Ok w w' := c_eq h (mk2_ok hS _ _) (index_any s n X hS.max h0 h1)
theorem c_has (hS : MaskS s) (h : Ok w X) (n : Int) (h0 : -9223372036854775808 ≤ n) (h1 : n ≤ 9223372036854775807) : Calls Try.prog 19 #[.string s, .int .i64 n] X fun e w' => e = .returned (.bool (hasI (rv s) n)) ∧ Ok w w' := c_eq h (by rw [(chkS_ok s).2 hS]; simp) (has_any s n X hS.max h0 h1)
theorem c_next (hS : MaskS s) (h : Ok w X) (n : Int) (h0 : -9223372036854775808 ≤ n) (h1 : n ≤ 9223372036854775807) : Calls Try.prog 24 #[.string s, .int .i64 n] X fun e w' => e = .returned (.tuple #[.int .i64 (optV (nextS (rv s) n)), .int .i64 (errO (nextS (rv s) n))]) ∧ Ok w w' := c_eq h (mk2_ok hS _ _) (next_any s n X hS.max h0 h1)
theorem c_prev (hS : MaskS s) (h : Ok w X) (n : Int) (h0 : -9223372036854775808 ≤ n) (h1 : n ≤ 9223372036854775807) : Calls Try.prog 25 #[.string s, .int .i64 n] X fun e w' => e = .returned (.tuple #[.int .i64 (optV (prevS (rv s) n)), .int .i64 (errO (prevS (rv s) n))]) ∧ Ok w w' := c_eq h (mk2_ok hS _ _) (prev_any s n X hS.max h0 h1)
theorem cr_count (hS : MaskS s) (h : Ok w X) : Calls Try.prog 12 #[.string s] X fun e w' => e = .returned (.int .i64 (cntR (rv s) : Nat)) ∧ Ok w w' := c_same h (cntR_any s X hS.le)
theorem cr_nth (hS : MaskS s) (h : Ok w X) (n : Int) (h0 : 0 ≤ n) (h1 : n ≤ 9223372036854775807) : Calls Try.prog 14 #[.string s, .int .i64 n] X fun e w' => e = .returned (.int .i64 (nthR (rv s) n.toNat : Nat)) ∧ Ok w w' := by
  have := nthR_any s n.toNat X hS (by omega)
  rw [show ((n.toNat : Nat) : Int) = n by omega] at this
  exact c_same h this
theorem cr_has (hS : MaskS s) (h : Ok w X) (n : Int) (h0 : -9223372036854775808 ≤ n) (h1 : n ≤ 9223372036854775807) : Calls Try.prog 20 #[.string s, .int .i64 n] X fun e w' => e = .returned (.bool (hasI (rv s) n)) ∧ Ok w w' := c_same h (hasR_any s n X hS h0 h1)
theorem cr_below (hS : MaskS s) (h : Ok w X) (n : Int) (h0 : -9223372036854775808 ≤ n) (h1 : n ≤ 9223372036854775807) : Calls Try.prog 22 #[.string s, .int .i64 n] X fun e w' => e = .returned (.int .i64 (blw (rv s) n : Nat)) ∧ Ok w w' := c_same h (blwR_any s n X hS h0 h1)
theorem cr_next (hS : MaskS s) (h : Ok w X) (n : Int) (h0 : -9223372036854775808 ≤ n) (h1 : n ≤ 9223372036854775807) : Calls Try.prog 26 #[.string s, .int .i64 n] X fun e w' => e = .returned (.tuple #[.int .i64 (optV (nextS (rv s) n)), .bool (nextS (rv s) n).isSome]) ∧ Ok w w' := c_same h (nextR_any s n X hS h0 h1)
theorem cr_prev (hS : MaskS s) (h : Ok w X) (n : Int) (h0 : -9223372036854775808 ≤ n) (h1 : n ≤ 9223372036854775807) : Calls Try.prog 27 #[.string s, .int .i64 n] X fun e w' => e = .returned (.tuple #[.int .i64 (optV (prevS (rv s) n)), .bool (prevS (rv s) n).isSome]) ∧ Ok w w' := c_same h (prevR_any s n X hS h0 h1)
end
theorem nthV_in {r : List UInt8} {i : Int} (h : 0 ≤ i ∧ i < (cntR r : Nat)) : nthV r i = (nthR r i.toNat : Nat) ∧ nthE r i = 0 := ⟨if_pos h, if_pos h⟩
theorem nthV_out {r : List UInt8} {i : Int} (h : ¬ (0 ≤ i ∧ i < (cntR r : Nat))) : nthV r i = 0 ∧ nthE r i = 4 := ⟨if_neg h, if_neg h⟩
theorem mask_new {w W : World} (h : Ok w W) (o : Obj) : Ok w (W.alloc o) := h.step ((Below.refl _ _).alloc (Nat.le_refl _) _)
theorem bs_alloc {W : World} {v : Value} (hv : BS W W.heap.size v) (o : Obj) : BS (W.alloc o) (W.alloc o).heap.size v :=
  (hv.below ((Below.refl W.heap.size W).alloc (Nat.le_refl _) o) (Nat.le_refl _)).up (by simp)

set_option maxRecDepth 100000 in
set_option maxHeartbeats 4000000 in
theorem numbers_law (v : Value) (i n : Int) (w W : World) (hv : BS W W.heap.size v) (i0 : -9223372036854775808 ≤ i) (i1 : i ≤ 9223372036854775807) (n0 : -9223372036854775808 ≤ n) (n1 : n ≤ 9223372036854775807) (h : Ok w W) :
    Calls Try.prog 3 #[.agg #[v], .int .i64 i, .int .i64 n] W fun e w' => e = .returned (.bool true) ∧ Ok w w' := by
  have HO : Hid (∀ o, Calls Try.prog 8 #[.agg #[v]] (W.alloc o) fun e w' => ∃ s, e = .returned (.string s) ∧ MaskS s ∧ Ok w w') :=
    fun o => (of_mask v _ (bs_alloc hv o)).mono fun _ _ ⟨s, h1, h2, h3⟩ => ⟨s, h1, h2, (mask_new h o).step h3⟩
  obtain ⟨A, sn, sc, rfl, -⟩ := id hv
  clear hv h
  go_enter Try.func3, Try.ntmps3
  go_wp2_with fail
  refine (HO.out _).mono ?_
  rintro e w2 ⟨s, rfl, hS, ho⟩
  clear HO
  have hpos := cnt_pos (rv s)
  have hcnt := hS.cnt
  have hHas : Hid (hasI (rv s) n = true → idxV (rv s) n = (blw (rv s) n : Nat) ∧ idxE (rv s) n = 0) := fun hh => by
    have := blw_has hh
    unfold idxV idxE
    rw [if_pos hh, if_pos hh, this.1]; exact ⟨rfl, rfl⟩
  have hHas2 : Hid (hasI (rv s) n = false → idxV (rv s) n = 0 ∧ idxE (rv s) n = 16) := fun hh => by
    unfold idxV idxE
    rw [if_neg (by rw [hh]; decide), if_neg (by rw [hh]; decide)]; exact ⟨rfl, rfl⟩
  have hIs : Hid (0 ≤ i ∧ i < (cntR (rv s) : Nat) → nthV (rv s) i = (nthR (rv s) i.toNat : Nat) ∧ nthE (rv s) i = 0 ∧ (nthR (rv s) i.toNat : Int) ≤ 9223372036854775807 ∧ hasI (rv s) (nthR (rv s) i.toNat : Nat) = true ∧ idxV (rv s) (nthR (rv s) i.toNat : Nat) = i ∧ idxE (rv s) (nthR (rv s) i.toNat : Nat) = 0) := fun hh => by
    have h1 := nthV_in hh
    have h2 := hS.nth i.toNat
    have h3 := hasI_nth hS.plcs i.toNat
    refine ⟨h1.1, h1.2, by omega, h3, ?_, ?_⟩
    · unfold idxV; rw [if_pos h3, Int.toNat_natCast, idx_nth hS.plcs _ (by omega)]; omega
    · unfold idxE; rw [if_pos h3]
  have KC : Hid (∀ X, Ok w X → Calls Try.prog 9 #[.string s] X fun e w' => e = .returned (.tuple #[.int .i64 (cntR (rv s) : Nat), .int .i64 0]) ∧ Ok w w') := fun X hX => c_count hS hX
  have KL : Hid (∀ X, Ok w X → Calls Try.prog 10 #[.string s] X fun e w' => e = .returned (.tuple #[.int .i64 (nthR (rv s) 0 : Nat), .int .i64 0]) ∧ Ok w w') := fun X hX => c_least hS hX
  have KG : Hid (∀ X, Ok w X → Calls Try.prog 11 #[.string s] X fun e w' => e = .returned (.tuple #[.int .i64 (nthR (rv s) (cntR (rv s) - 1) : Nat), .int .i64 0]) ∧ Ok w w') := fun X hX => c_great hS hX
  have KA : Hid (∀ X, Ok w X → Calls Try.prog 12 #[.string s] X fun e w' => e = .returned (.int .i64 (cntR (rv s) : Nat)) ∧ Ok w w') := fun X hX => cr_count hS hX
  have KK : Hid (∀ X, Ok w X → Calls Try.prog 15 #[.string s] X fun e w' => e = .returned (.int .i64 0) ∧ Ok w w') := fun X hX => c_check hS hX
  have R0 : Hid (∀ X y, Ok w X → y = (0 : Int) → Calls Try.prog 14 #[.string s, .int .i64 y] X fun e w' => e = .returned (.int .i64 (nthR (rv s) 0 : Nat)) ∧ Ok w w') := fun X y hX hy => by rw [hy]; exact cr_nth hS hX 0 (by omega) (by omega)
  have R1 : Hid (∀ X y, Ok w X → y = ((cntR (rv s) : Nat) : Int) - 1 → Calls Try.prog 14 #[.string s, .int .i64 y] X fun e w' => e = .returned (.int .i64 (nthR (rv s) (cntR (rv s) - 1) : Nat)) ∧ Ok w w') := fun X y hX hy => by
    have := cr_nth hS hX y (by omega) (by omega)
    rw [show y.toNat = cntR (rv s) - 1 by omega] at this
    exact this
  have R2 : Hid (0 ≤ i → ∀ X y, Ok w X → y = i → Calls Try.prog 14 #[.string s, .int .i64 y] X fun e w' => e = .returned (.int .i64 (nthR (rv s) i.toNat : Nat)) ∧ Ok w w') := fun hi X y hX hy => by rw [hy]; exact cr_nth hS hX i hi i1
  have KN : Hid (∀ X, Ok w X → Calls Try.prog 16 #[.string s, .int .i64 i] X fun e w' => e = .returned (.tuple #[.int .i64 (nthV (rv s) i), .int .i64 (nthE (rv s) i)]) ∧ Ok w w') := fun X hX => c_nth hS hX i i0 i1
  have KI : Hid (∀ X y, Ok w X → -9223372036854775808 ≤ y → y ≤ 9223372036854775807 → Calls Try.prog 18 #[.string s, .int .i64 y] X fun e w' => e = .returned (.tuple #[.int .i64 (idxV (rv s) y), .int .i64 (idxE (rv s) y)]) ∧ Ok w w') := fun X y hX h0 h1 => c_index hS hX y h0 h1
  have KH : Hid (∀ X y, Ok w X → -9223372036854775808 ≤ y → y ≤ 9223372036854775807 → Calls Try.prog 19 #[.string s, .int .i64 y] X fun e w' => e = .returned (.bool (hasI (rv s) y)) ∧ Ok w w') := fun X y hX h0 h1 => c_has hS hX y h0 h1
  have KQ : Hid (∀ X, Ok w X → Calls Try.prog 20 #[.string s, .int .i64 n] X fun e w' => e = .returned (.bool (hasI (rv s) n)) ∧ Ok w w') := fun X hX => cr_has hS hX n n0 n1
  have KB : Hid (∀ X, Ok w X → Calls Try.prog 22 #[.string s, .int .i64 n] X fun e w' => e = .returned (.int .i64 (blw (rv s) n : Nat)) ∧ Ok w w') := fun X hX => cr_below hS hX n n0 n1
  clear hS
  obtain ⟨hn, hhn⟩ : ∃ hn, hasI (rv s) n = hn := ⟨_, rfl⟩
  have HGv : Hid (givesB (idxV (rv s) n) (idxE (rv s) n) (blw (rv s) n : Nat) hn 16 = true) := by
    show _ = _
    cases hn
    · obtain ⟨e1, e2⟩ := hHas2.out hhn
      rw [e1, e2]; rfl
    · obtain ⟨e1, e2⟩ := hHas.out hhn
      rw [e1, e2]; simp [givesB]
  have KI2 : Hid (∀ X, Ok w X → Calls Try.prog 18 #[.string s, .int .i64 n] X fun e w' => e = .returned (.tuple #[.int .i64 (idxV (rv s) n), .int .i64 (idxE (rv s) n)]) ∧ Ok w w') := fun X hX => KI.out X n hX n0 n1
  have KH2 : Hid (∀ X, Ok w X → Calls Try.prog 19 #[.string s, .int .i64 n] X fun e w' => e = .returned (.bool hn) ∧ Ok w w') := fun X hX => by rw [← hhn]; exact KH.out X n hX n0 n1
  rw [hhn] at KQ
  by_cases his : 0 ≤ i ∧ i < ((cntR (rv s) : Nat) : Int)
  · obtain ⟨q1, q2, q3, q4, q5, q6⟩ := hIs.out his
    rw [q1, q2] at KN
    have R2' := R2.out his.1
    have R2h := Lib.hid R2'
    have KI1 : Hid (∀ X, Ok w X → Calls Try.prog 18 #[.string s, .int .i64 (nthR (rv s) i.toNat : Nat)] X fun e w' => e = .returned (.tuple #[.int .i64 i, .int .i64 0]) ∧ Ok w w') := fun X hX => by
      have := KI.out X (nthR (rv s) i.toNat : Nat) hX (by omega) (by omega)
      rw [q5, q6] at this; exact this
    have KH1 : Hid (∀ X, Ok w X → Calls Try.prog 19 #[.string s, .int .i64 (nthR (rv s) i.toNat : Nat)] X fun e w' => e = .returned (.bool true) ∧ Ok w w') := fun X hX => by
      have := KH.out X (nthR (rv s) i.toNat : Nat) hX (by omega) (by omega)
      rw [q4] at this; exact this
    obtain ⟨his1, his2⟩ := his
    clear q1 q2 q3 q4 q5 q6 R2' R2 KI KH hIs hHas hHas2 hhn
    generalize nthR (rv s) (cntR (rv s) - 1) = z1 at *
    generalize cntR (rv s) = C at *
    generalize nthR (rv s) 0 = z0 at *
    generalize nthR (rv s) i.toNat = zi at *
    generalize idxV (rv s) n = iv at *
    generalize idxE (rv s) n = ie at *
    generalize blw (rv s) n = bn at *
    cases hn
    all_goals
      go_wp2_with (first
        | (go_at_call 9; refine (KC.out _ (by assumption)).mono ?_; rintro e w' ⟨rfl, hk⟩)
        | (go_at_call 10; refine (KL.out _ (by assumption)).mono ?_; rintro e w' ⟨rfl, hk⟩)
        | (go_at_call 11; refine (KG.out _ (by assumption)).mono ?_; rintro e w' ⟨rfl, hk⟩)
        | (go_at_call 12; refine (KA.out _ (by assumption)).mono ?_; rintro e w' ⟨rfl, hk⟩)
        | (go_at_call 15; refine (KK.out _ (by assumption)).mono ?_; rintro e w' ⟨rfl, hk⟩)
        | (go_at_call 14; refine (R0.out _ _ (by assumption) (by exact rfl)).mono ?_; rintro e w' ⟨rfl, hk⟩)
        | (go_at_call 14; refine (R1.out _ _ (by assumption) (by exact rfl)).mono ?_; rintro e w' ⟨rfl, hk⟩)
        | (go_at_call 14; refine (R2h.out _ _ (by assumption) (by exact rfl)).mono ?_; rintro e w' ⟨rfl, hk⟩)
        | (go_at_call 16; refine (KN.out _ (by assumption)).mono ?_; rintro e w' ⟨rfl, hk⟩)
        | (go_at_call 18; ((with_reducible refine (KI1.out _ (by assumption)).mono ?_); rintro e w' ⟨rfl, hk⟩))
        | (go_at_call 18; ((with_reducible refine (KI2.out _ (by assumption)).mono ?_); rintro e w' ⟨rfl, hk⟩))
        | (go_at_call 19; ((with_reducible refine (KH1.out _ (by assumption)).mono ?_); rintro e w' ⟨rfl, hk⟩))
        | (go_at_call 19; ((with_reducible refine (KH2.out _ (by assumption)).mono ?_); rintro e w' ⟨rfl, hk⟩))
        | (go_at_call 20; refine (KQ.out _ (by assumption)).mono ?_; rintro e w' ⟨rfl, hk⟩)
        | (go_at_call 22; refine (KB.out _ (by assumption)).mono ?_; rintro e w' ⟨rfl, hk⟩)
        | (go_at_call 13; refine (num_t _ _ _ _ (by rfl) (by rfl)).mono ?_; rintro e w' ⟨rfl, rfl⟩)
        | (go_at_call 17; refine (bad_t _ _ _ _ (by rfl) (by rfl)).mono ?_; rintro e w' ⟨rfl, rfl⟩)
        | (go_at_call 21; refine (gives_t _ _ _ _ _ _ HGv.out).mono ?_; rintro e w' ⟨rfl, rfl⟩)
        | (go_at_call 23; refine (lives_t w _ (by assumption)).mono ?_; rintro e w' ⟨rfl, hk⟩))
      go_ret
      exact ⟨rfl, by assumption⟩
  · obtain ⟨q1, q2⟩ := nthV_out his
    rw [q1, q2] at KN
    clear q1 q2 R2 KI KH hIs hHas hHas2 hhn
    generalize nthR (rv s) (cntR (rv s) - 1) = z1 at *
    generalize cntR (rv s) = C at *
    generalize nthR (rv s) 0 = z0 at *
    generalize idxV (rv s) n = iv at *
    generalize idxE (rv s) n = ie at *
    generalize blw (rv s) n = bn at *
    by_cases hi0 : 0 ≤ i
    all_goals
      first | have hi2 : ¬ i < (C : Int) := by omega
            | skip
      clear his
      cases hn
    all_goals
      go_wp2_with (first
        | (go_at_call 9; refine (KC.out _ (by assumption)).mono ?_; rintro e w' ⟨rfl, hk⟩)
        | (go_at_call 10; refine (KL.out _ (by assumption)).mono ?_; rintro e w' ⟨rfl, hk⟩)
        | (go_at_call 11; refine (KG.out _ (by assumption)).mono ?_; rintro e w' ⟨rfl, hk⟩)
        | (go_at_call 12; refine (KA.out _ (by assumption)).mono ?_; rintro e w' ⟨rfl, hk⟩)
        | (go_at_call 15; refine (KK.out _ (by assumption)).mono ?_; rintro e w' ⟨rfl, hk⟩)
        | (go_at_call 14; refine (R0.out _ _ (by assumption) (by exact rfl)).mono ?_; rintro e w' ⟨rfl, hk⟩)
        | (go_at_call 14; refine (R1.out _ _ (by assumption) (by exact rfl)).mono ?_; rintro e w' ⟨rfl, hk⟩)
        | (go_at_call 16; refine (KN.out _ (by assumption)).mono ?_; rintro e w' ⟨rfl, hk⟩)
        | (go_at_call 18; ((with_reducible refine (KI2.out _ (by assumption)).mono ?_); rintro e w' ⟨rfl, hk⟩))
        | (go_at_call 19; ((with_reducible refine (KH2.out _ (by assumption)).mono ?_); rintro e w' ⟨rfl, hk⟩))
        | (go_at_call 20; refine (KQ.out _ (by assumption)).mono ?_; rintro e w' ⟨rfl, hk⟩)
        | (go_at_call 22; refine (KB.out _ (by assumption)).mono ?_; rintro e w' ⟨rfl, hk⟩)
        | (go_at_call 13; refine (num_t _ _ _ _ (by rfl) (by rfl)).mono ?_; rintro e w' ⟨rfl, rfl⟩)
        | (go_at_call 17; refine (bad_t _ _ _ _ (by rfl) (by rfl)).mono ?_; rintro e w' ⟨rfl, rfl⟩)
        | (go_at_call 21; refine (gives_t _ _ _ _ _ _ HGv.out).mono ?_; rintro e w' ⟨rfl, rfl⟩)
        | (go_at_call 23; refine (lives_t w _ (by assumption)).mono ?_; rintro e w' ⟨rfl, hk⟩))
      go_ret
      exact ⟨rfl, by assumption⟩
end Go.Proofs.Ythgnoeigjngniaa
