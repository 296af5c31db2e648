/- The reference of masks (circaref03), function by function: what each returns. -/
import Derived.Test.YthgnoeigjngniaaM0
namespace Go.Proofs.Ythgnoeigjngniaa
open Go.RowKit

set_option maxHeartbeats 400000 in
theorem cntR_any (s : ByteArray) (w : World) (hs : s.size ≤ 18) :
    Calls Try.prog 12 #[.string s] w fun e w' => e = .returned (.int .i64 (cntR (rv s) : Nat)) ∧ w = w' := by
  go_enter Try.func12, Try.ntmps12
  go_wp2
  go_loop [3, 4] (fun n i => ∃ k : Nat, k ≤ s.size ∧ i = .int .i64 k ∧ n = .int .i64 (cntR (pre s k) : Nat)) (fun _ i => s.size - (intOf i).toNat)
  case atStart => exact ⟨0, Nat.zero_le _, rfl, by rw [pre_zero]; rfl⟩
  case round =>
    obtain ⟨k, hk, rfl, rfl⟩ := hrel
    by_cases hlt : k < s.size
    · have hp := pre_succ s k hlt
      have hb : cntR (pre s k) ≤ 100000000000000000 := by
        have h1 := cnt_le (pre s k)
        rw [pre_len s k hk] at h1
        have := Nat.pow_le_pow_right (show 0 < 10 by omega) (show k ≤ 17 by omega); omega
      have hc : cntR (pre s (k + 1)) = if s[k].toNat = 88 then 10 * cntR (pre s k) else cntR (pre s k) := by rw [hp]; rfl
      have HC := Lib.hid hc
      clear hc hp
      generalize hn : cntR (pre s k) = n at *
      by_cases h88 : s[k].toNat = 88
      · have h1 : ((s[k].toNat : Int) == 88) = true := by rw [beq_iff_eq]; omega
        have HH := Lib.hid h88
        clear h88
        go_wp2
        go_round
        case rel => exact ⟨k + 1, by omega, by go_num, by rw [HC.out, if_pos HH.out]; congr 1; omega⟩
        case measure => simp [intOf]; omega
      · have h1 : ((s[k].toNat : Int) == 88) = false := by rw [beq_eq_false_iff_ne]; omega
        have HH := Lib.hid h88
        clear h88
        go_wp2
        go_round
        case rel => exact ⟨k + 1, by omega, by go_num, by rw [HC.out, if_neg HH.out]⟩
        case measure => simp [intOf]; omega
    · obtain rfl : k = s.size := by omega
      have HR := Lib.hid (pre_all s)
      clear hlt
      go_wp2
      go_ret
      exact ⟨by rw [HR.out]; rfl, rfl⟩

theorem plc_lo {s : ByteArray} (h : plcs (rv s)) (k : Nat) (hk : k < s.size) : s[k].toNat = 88 ∨ (48 ≤ s[k].toNat ∧ s[k].toNat ≤ 57) := plc_at h k hk
theorem wrap_u8 {n : Int} (h0 : 0 ≤ n) (h1 : n < 256) : IntKind.u8.wrap n = n := by rw [IntKind.wrap_u8]; omega
theorem wrap_64 {n : Int} (h0 : -9223372036854775808 ≤ n) (h1 : n ≤ 9223372036854775807) : IntKind.i64.wrap n = n := by rw [IntKind.wrap_i64]; omega

set_option maxHeartbeats 800000 in
theorem nthR_any (s : ByteArray) (i : Nat) (w : World) (hs : MaskS s) (hi : i ≤ 9223372036854775807) :
    Calls Try.prog 14 #[.string s, .int .i64 i] w fun e w' => e = .returned (.int .i64 (nthR (rv s) i : Nat)) ∧ w = w' := by
  have hN := hs.nth i
  have h18 := hs.le
  have hP := Lib.hid hs.plcs
  obtain ⟨N, hNe⟩ : ∃ N, nthR (rv s) i = N := ⟨_, rfl⟩
  have h0 : Hid (nthR (pre s s.size) i = N) := by show _ = _; rw [pre_all]; exact hNe
  rw [hNe] at hN ⊢
  clear hNe hs
  go_enter Try.func14, Try.ntmps14
  go_wp2
  go_loop [1, 5, 6, 7] (fun iv n wt k => ∃ (j x a t : Nat), j ≤ s.size ∧ k = .int .i64 ((j : Int) - 1) ∧ iv = .int .i64 x ∧ n = .int .i64 a ∧ wt = .int .i64 t ∧ x ≤ 9223372036854775807 ∧ t = 10 ^ (s.size - j) ∧ a + t * nthR (pre s j) x = N) (fun _ _ _ k => (intOf k + 1).toNat)
  case atStart => exact ⟨s.size, i, 0, 1, Nat.le_refl _, rfl, rfl, rfl, rfl, hi, by simp, by rw [h0.out]; simp⟩
  case round =>
    obtain ⟨j, x, a, t, hj, rfl, rfl, rfl, rfl, hx, ht, hinv⟩ := hrel
    clear h0 hi
    rcases j with _ | k
    · have HR : Hid (a = N) := by show a = N; rw [pre_zero] at hinv; simpa [nthR] using hinv
      clear hinv ht
      go_wp2
      go_ret
      exact ⟨by rw [HR.out]; rfl, rfl⟩
    · have hk : k < s.size := by omega
      rw [pre_succ s k hk] at hinv
      have ht1 : 1 ≤ t ∧ t * 10 ≤ 1000000000000000000 := by
        rw [ht]
        have h1 : 1 ≤ 10 ^ (s.size - (k + 1)) := Nat.one_le_pow _ _ (by omega)
        have h2 := ten_le (k := s.size - (k + 1) + 1) (by omega)
        rw [Nat.pow_succ] at h2
        exact ⟨h1, h2⟩
      have ht2 : t * 10 = 10 ^ (s.size - k) := by rw [ht, ← Nat.pow_succ]; congr 1; omega
      have e1 : (((k + 1 : Nat) : Int) - 1) = (k : Int) := by omega
      rw [e1]
      by_cases h88 : s[k].toNat = 88
      · have h1 : ((s[k].toNat : Int) == 88) = true := by rw [beq_iff_eq]; omega
        simp only [nthR, if_pos h88] at hinv
        rw [Nat.mul_add, ← Nat.mul_assoc, ← Nat.add_assoc] at hinv
        obtain ⟨b, hb⟩ : ∃ b, a + t * (x % 10) = b := ⟨_, rfl⟩
        rw [hb] at hinv
        have hbN : b ≤ N := by omega
        have v1 : (x : Int).tmod 10 = ((x % 10 : Nat) : Int) := by rw [Int.tmod_eq_emod_of_nonneg (by omega)]; omega
        have v2 : (t : Int) * ((x % 10 : Nat) : Int) = ((t * (x % 10) : Nat) : Int) := by simp
        have v3 : (x : Int).tdiv 10 = ((x / 10 : Nat) : Int) := by rw [Int.tdiv_eq_ediv_of_nonneg (by omega)]; omega
        obtain ⟨p, hp⟩ : ∃ p, t * (x % 10) = p := ⟨_, rfl⟩
        rw [hp] at hb v2
        have HV : Hid (t * 10 = 10 ^ (s.size - k) ∧ b + t * 10 * nthR (pre s k) (x / 10) = N) := ⟨ht2, hinv⟩
        have hx10 : x % 10 < 10 := by omega
        have hxd : x / 10 ≤ 9223372036854775807 := by omega
        clear ht ht2 hinv hp
        generalize x % 10 = y at *
        generalize x / 10 = z at *
        go_wp2
        go_round
        case rel => exact ⟨k, z, b, t * 10, by omega, by go_num, rfl, by congr 1; omega, by go_num, hxd, HV.out.1, HV.out.2⟩
        case measure => simp [intOf]
      · have hpl := plc_lo hP.out k hk
        have h1 : ((s[k].toNat : Int) == 88) = false := by rw [beq_eq_false_iff_ne]; omega
        simp only [nthR, if_neg h88] at hinv
        rw [Nat.mul_add, ← Nat.mul_assoc, ← Nat.add_assoc] at hinv
        obtain ⟨d, hd⟩ : ∃ d, s[k].toNat - 48 = d := ⟨_, rfl⟩
        have hd1 : s[k].toNat = d + 48 ∧ d ≤ 9 := by omega
        rw [hd] at hinv
        obtain ⟨b, hb⟩ : ∃ b, a + t * d = b := ⟨_, rfl⟩
        rw [hb] at hinv
        have hbN : b ≤ N := by omega
        have v0 : IntKind.u8.wrap ((s[k].toNat : Int) - 48) = (d : Int) := by rw [IntKind.wrap_u8]; omega
        have v2 : (t : Int) * (d : Int) = ((t * d : Nat) : Int) := by simp
        obtain ⟨p, hp⟩ : ∃ p, t * d = p := ⟨_, rfl⟩
        rw [hp] at hb v2
        have HV : Hid (t * 10 = 10 ^ (s.size - k) ∧ b + t * 10 * nthR (pre s k) x = N) := ⟨ht2, hinv⟩
        have hd9 := hd1.2
        clear ht ht2 hinv hp hd hd1 hpl h88
        go_wp2
        go_round
        case rel => exact ⟨k, x, b, t * 10, by omega, by go_num, rfl, by congr 1; omega, by go_num, hx, HV.out.1, HV.out.2⟩
        case measure => simp [intOf]

theorem ret_q {k : IntKind} {a b : Int} {c d : Bool} (h : a = b) (h' : c = d) : Ending.returned (.tuple #[.int k a, .bool c]) = .returned (.tuple #[.int k b, .bool d]) := by rw [h, h']

set_option maxHeartbeats 800000 in
theorem hasR_any (s : ByteArray) (n : Int) (w : World) (hs : MaskS s) (h0 : -9223372036854775808 ≤ n) (h1 : n ≤ 9223372036854775807) :
    Calls Try.prog 20 #[.string s, .int .i64 n] w fun e w' => e = .returned (.bool (hasI (rv s) n)) ∧ w = w' := by
  by_cases hneg : n < 0
  · have hr := hasI_neg (rv s) hneg
    rw [hr]
    clear hr
    go_enter Try.func20, Try.ntmps20
    go_wp2
    go_ret
    exact ⟨rfl, rfl⟩
  · obtain ⟨m, rfl⟩ : ∃ m : Nat, n = m := ⟨n.toNat, by omega⟩
    rw [hasI_nat]
    have h18 := hs.le
    have hP := Lib.hid hs.plcs
    obtain ⟨B, hB⟩ : ∃ B, hasR (rv s) m = B := ⟨_, rfl⟩
    have hI : Hid (hasR (pre s s.size) m = B) := by show _ = _; rw [pre_all]; exact hB
    rw [hB]
    clear hB hs hneg
    go_enter Try.func20, Try.ntmps20
    go_wp2
    go_loop [1, 5] (fun n k => ∃ (j x : Nat), j ≤ s.size ∧ k = .int .i64 ((j : Int) - 1) ∧ n = .int .i64 x ∧ x ≤ 9223372036854775807 ∧ Hid (hasR (pre s j) x = B)) (fun _ k => (intOf k + 1).toNat)
    case atStart => exact ⟨s.size, m, Nat.le_refl _, rfl, rfl, by omega, hI⟩
    case round =>
      obtain ⟨j, x, hj, rfl, rfl, hx, hinv⟩ := hrel
      clear hI h0 h1
      rcases j with _ | k
      · have HR : Hid (((x : Int) == 0) = B) := by
          have := hinv.out
          rw [pre_zero] at this
          simp only [hasR] at this
          show _ = _
          rw [← this, Bool.eq_iff_iff, beq_iff_eq, decide_eq_true_eq]; omega
        clear hinv
        go_wp2
        go_ret
        exact ⟨ret_b HR.out, rfl⟩
      · have hk : k < s.size := by omega
        have hinv2 := hinv.out
        rw [pre_succ s k hk] at hinv2
        have e1 : (((k + 1 : Nat) : Int) - 1) = (k : Int) := by omega
        rw [e1]
        have hpl := plc_lo hP.out k hk
        simp only [hasR] at hinv2
        have v1 : (x : Int).tmod 10 = ((x % 10 : Nat) : Int) := by rw [Int.tmod_eq_emod_of_nonneg (by omega)]; omega
        have v3 : (x : Int).tdiv 10 = ((x / 10 : Nat) : Int) := by rw [Int.tdiv_eq_ediv_of_nonneg (by omega)]; omega
        have hxd : x / 10 ≤ 9223372036854775807 := by omega
        by_cases h88 : s[k].toNat = 88
        · have hb1 : ((s[k].toNat : Int) != 88) = false := by rw [bne_eq_false_iff_eq]; omega
          have HI : Hid (hasR (pre s k) (x / 10) = B) := by
            show _ = _
            rw [← hinv2]; simp [h88]
          clear hinv hinv2 h88 hpl
          generalize x % 10 = y at *
          generalize x / 10 = z at *
          go_wp2
          go_round
          case rel => exact ⟨k, z, by omega, by go_num, rfl, hxd, HI⟩
          case measure => simp [intOf]
        · have hb1 : ((s[k].toNat : Int) != 88) = true := by rw [bne_iff_ne]; omega
          have v0 : IntKind.u8.wrap ((s[k].toNat : Int) - 48) = (s[k].toNat : Int) - 48 := by rw [IntKind.wrap_u8]; omega
          by_cases hd : s[k].toNat = x % 10 + 48
          · have hb2 : (wrap64 ((s[k].toNat : Int) - 48) != ((x % 10 : Nat) : Int)) = false := by rw [IntWalk.wrap64_in _ ⟨by omega, by omega⟩, bne_eq_false_iff_eq]; omega
            have HI : Hid (hasR (pre s k) (x / 10) = B) := by
              show _ = _
              rw [← hinv2]; simp [hd]
            clear hinv hinv2 h88 hd hpl
            generalize x % 10 = y at *
            generalize x / 10 = z at *
            go_wp2
            go_round
            case rel => exact ⟨k, z, by omega, by go_num, rfl, hxd, HI⟩
            case measure => simp [intOf]
          · have hb2 : (wrap64 ((s[k].toNat : Int) - 48) != ((x % 10 : Nat) : Int)) = true := by rw [IntWalk.wrap64_in _ ⟨by omega, by omega⟩, bne_iff_ne]; omega
            have HI : Hid (B = false) := by
              show _ = _
              rw [← hinv2]; simp [h88, hd]
            clear hinv hinv2 h88 hd hpl
            generalize x % 10 = y at *
            generalize x / 10 = z at *
            go_wp2
            go_ret
            exact ⟨ret_b HI.out.symm, rfl⟩

def BlwInv (r : List UInt8) (n : Int) (f t : Nat) : Prop := (∀ i, i < f → (nthR r i : Int) < n) ∧ ∀ i, t ≤ i → i < cntR r → n ≤ (nthR r i : Int)

set_option maxHeartbeats 800000 in
theorem blwR_any (s : ByteArray) (n : Int) (w : World) (hs : MaskS s) (h0 : -9223372036854775808 ≤ n) (h1 : n ≤ 9223372036854775807) :
    Calls Try.prog 22 #[.string s, .int .i64 n] w fun e w' => e = .returned (.int .i64 (blw (rv s) n : Nat)) ∧ w = w' := by
  have hC := Lib.hid (cntR_any s w hs.le)
  have hN : Hid (∀ i : Nat, i ≤ 9223372036854775807 → Calls Try.prog 14 #[.string s, .int .i64 i] w fun e w' => e = .returned (.int .i64 (nthR (rv s) i : Nat)) ∧ w = w') := fun i hi => nthR_any s i w hs hi
  have hS := Lib.hid hs
  have hc := hs.cnt
  clear hs
  obtain ⟨C, hCe⟩ : ∃ C, cntR (rv s) = C := ⟨_, rfl⟩
  have HCe := Lib.hid hCe
  rw [hCe] at hc hC
  clear hCe
  go_enter Try.func22, Try.ntmps22
  go_wp2_with (go_at_call 12; refine (hC.out).mono ?_; rintro e w' ⟨rfl, rfl⟩)
  go_loop [5, 6] (fun f t => ∃ (a b : Nat), a ≤ b ∧ b ≤ C ∧ f = .int .i64 a ∧ t = .int .i64 b ∧ Hid (BlwInv (rv s) n a b)) (fun f t => (intOf t).toNat - (intOf f).toNat)
  case atStart => exact ⟨0, C, Nat.zero_le _, Nat.le_refl _, rfl, rfl, ⟨fun i hi => by omega, fun i hi hj => by rw [HCe.out] at hj; omega⟩⟩
  case round =>
    obtain ⟨a, b, hab, hb, rfl, rfl, hi⟩ := hrel
    by_cases hlt : a < b
    · obtain ⟨m, hm⟩ : ∃ m, m = a + (b - a) / 2 := ⟨_, rfl⟩
      have v1 : ((b : Int) - (a : Int)).tdiv 2 = ((m - a : Nat) : Int) := by rw [Int.tdiv_eq_ediv_of_nonneg (by omega)]; omega
      have v2 : (a : Int) + ((m - a : Nat) : Int) = (m : Int) := by omega
      have hma : a ≤ m ∧ m < b := by omega
      have hNm := hN.out m (by omega)
      have hn := hS.out.nth m
      have hma1 := hma.1
      have hma2 := hma.2
      clear hma hN hC
      have v3 : IntKind.i64.wrap ((m - a : Nat) : Int) = ((m - a : Nat) : Int) := wrap_64 (by omega) (by omega)
      clear hm
      generalize m - a = q at *
      obtain ⟨x, hx⟩ : ∃ x, nthR (rv s) m = x := ⟨_, rfl⟩
      rw [hx] at hNm hn
      have HX := Lib.hid hx
      have HNm := Lib.hid hNm
      clear hx hNm
      by_cases hlx : (x : Int) < n
      · have HL := Lib.hid hlx
        go_wp2_with (go_at_call 14; refine (HNm.out).mono ?_; rintro e w' ⟨rfl, rfl⟩)
        go_round
        case rel =>
          refine ⟨m + 1, b, by omega, hb, by go_num, rfl, ⟨fun i hi' => ?_, hi.out.2⟩⟩
          have h3 := nth_mono' (rv s) (i := i) (j := m) (by omega) (by rw [HCe.out]; omega)
          rw [HX.out] at h3; have := HL.out; omega
        case measure => simp [intOf]; omega
      · have HL := Lib.hid hlx
        go_wp2_with (go_at_call 14; refine (HNm.out).mono ?_; rintro e w' ⟨rfl, rfl⟩)
        go_round
        case rel =>
          refine ⟨a, m, by omega, by omega, rfl, rfl, ⟨hi.out.1, fun i h1 h2 => ?_⟩⟩
          have h3 := nth_mono' (rv s) (i := m) (j := i) h1 h2
          rw [HX.out] at h3; have := HL.out; omega
        case measure => simp [intOf]; omega
    · obtain rfl : a = b := by omega
      have HR : Hid (blw (rv s) n = a) := blw_of (by rw [HCe.out]; exact hb) hi.out.1 hi.out.2
      clear hi hlt
      go_wp2
      go_ret
      exact ⟨by rw [HR.out]; rfl, rfl⟩

def optV (o : Option Nat) : Int := ((o.getD 0 : Nat) : Int)
theorem nextR_any (s : ByteArray) (n : Int) (w : World) (hs : MaskS s) (h0 : -9223372036854775808 ≤ n) (h1 : n ≤ 9223372036854775807) :
    Calls Try.prog 26 #[.string s, .int .i64 n] w fun e w' => e = .returned (.tuple #[.int .i64 (optV (nextS (rv s) n)), .bool (nextS (rv s) n).isSome]) ∧ w = w' := by
  have hC := Lib.hid (cntR_any s w hs.le)
  have hB := Lib.hid (blwR_any s n w hs h0 h1)
  have hle := blw_le (rv s) n
  have hc := hs.cnt
  by_cases he : blw (rv s) n = cntR (rv s)
  · have hr : nextS (rv s) n = none := by unfold nextS; rw [if_pos he]
    rw [hr]
    rw [he] at hB
    generalize cntR (rv s) = C at *
    clear he hle hr
    go_enter Try.func26, Try.ntmps26
    go_wp2_with (first
      | (go_at_call 12; refine (hC.out).mono ?_; rintro e w' ⟨rfl, rfl⟩)
      | (go_at_call 22; refine (hB.out).mono ?_; rintro e w' ⟨rfl, rfl⟩))
    go_ret2
    exact ⟨rfl, rfl⟩
  · have hr : nextS (rv s) n = some (nthR (rv s) (blw (rv s) n)) := by unfold nextS; rw [if_neg he]
    have hN := nthR_any s (blw (rv s) n) w hs (by omega)
    rw [hr]
    have ht : (((blw (rv s) n : Nat) : Int) == ((cntR (rv s) : Nat) : Int)) = false := by rw [beq_eq_false_iff_ne]; omega
    generalize cntR (rv s) = C at *
    generalize nthR (rv s) (blw (rv s) n) = x at *
    generalize blw (rv s) n = b at *
    have HN := Lib.hid hN
    clear he hr hN
    go_enter Try.func26, Try.ntmps26
    go_wp2_with (first
      | (go_at_call 12; refine (hC.out).mono ?_; rintro e w' ⟨rfl, rfl⟩)
      | (go_at_call 22; refine (hB.out).mono ?_; rintro e w' ⟨rfl, rfl⟩)
      | (go_at_call 14; refine (HN.out).mono ?_; rintro e w' ⟨rfl, rfl⟩))
    go_ret2
    exact ⟨rfl, rfl⟩
end Go.Proofs.Ythgnoeigjngniaa
