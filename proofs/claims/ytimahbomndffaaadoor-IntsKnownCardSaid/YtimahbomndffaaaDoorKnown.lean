/- The law IntsKnown: it returns true. -/
import Derived.Test.YtimahbomndffaaaDoorSums
import Derived.Test.YtimahbomndffaaaDoorIParse
import Derived.Test.YtimahbomndffaaaDoorGcd
namespace Go.Proofs.YtimahbomndffaaaDoor
open Go.RowKit

/-- The numbers that the law lists. -/
def knL : List Int := [-9223372036854775808, -9223372036854775807, -4294967296, -10, -1, 0, 1, 2, 10, 2147483648, 4294967296, 9223372036854775806, 9223372036854775807]
def kn (i : Nat) : Int := knL.getD i 0
theorem kn_in (i : Nat) : -9223372036854775808 ≤ kn i ∧ kn i ≤ 9223372036854775807 := by
  have h13 : ∀ j : Fin 13, -9223372036854775808 ≤ kn j ∧ kn j ≤ 9223372036854775807 := by decide
  rcases Nat.lt_or_ge i 13 with h | h
  · exact h13 ⟨i, h⟩
  · have : kn i = 0 := by unfold kn; rw [List.getD_eq_getElem?_getD, List.getElem?_eq_none (by simpa [knL] using h)]; rfl
    rw [this]; omega
def KR (g : Nat) (X : World) : Prop := g < X.heap.size ∧ ∀ i, i < 13 → X.cell? ⟨g, i, none⟩ = some (.int .i64 (kn i))
theorem KR.below {g : Nat} {X Y : World} (h : KR g X) (hb : Below X.heap.size X Y) : KR g Y :=
  ⟨Nat.lt_of_lt_of_le h.1 hb.size, fun i hi => (hb.cell (p := ⟨g, i, none⟩) h.1).trans (h.2 i hi)⟩

theorem kr_new (W : World) (t : TypeId) : KR W.heap.size (W.alloc (.cells #[.int .i64 (-9223372036854775808), .int .i64 (-9223372036854775807), .int .i64 (-4294967296), .int .i64 (-10), .int .i64 (-1), .int .i64 0, .int .i64 1, .int .i64 2, .int .i64 10, .int .i64 2147483648, .int .i64 4294967296, .int .i64 9223372036854775806, .int .i64 9223372036854775807] t)) :=
  ⟨by simp, fun i hi => by
    rw [cell_of_row _ _ i _ _ (0, 0) (heap_alloc_new W _)]
    match i, hi with
    | 0, _ | 1, _ | 2, _ | 3, _ | 4, _ | 5, _ | 6, _ | 7, _ | 8, _ | 9, _ | 10, _ | 11, _ | 12, _ => rfl⟩

set_option maxRecDepth 100000 in
set_option maxHeartbeats 8000000 in
theorem known_law (w W : World) (h : Ok w W) :
    Calls Tryd.prog 8 #[] W fun e w' => e = .returned (.bool true) ∧ Ok w w' := by
  have HS : Hid (∀ X a b, Ok w X → -9223372036854775808 ≤ a ∧ a ≤ 9223372036854775807 → -9223372036854775808 ≤ b ∧ b ≤ 9223372036854775807 → Calls Tryd.prog 3 #[.int .i64 a, .int .i64 b] X fun e w' => e = .returned (.bool true) ∧ Below X.heap.size X w' ∧ Ok w w') :=
    fun X a b hX ha hb => (sums_law a b X X ha.1 ha.2 hb.1 hb.2 (Ok.refl hX.1)).mono fun _ _ ⟨p, q⟩ => ⟨p, q.2, hX.step q.2⟩
  have HD : Hid (∀ X a b c, Ok w X → -9223372036854775808 ≤ a ∧ a ≤ 9223372036854775807 → -9223372036854775808 ≤ b ∧ b ≤ 9223372036854775807 → -9223372036854775808 ≤ c ∧ c ≤ 9223372036854775807 → Calls Tryd.prog 4 #[.int .i64 a, .int .i64 b, .int .i64 c] X fun e w' => e = .returned (.bool true) ∧ Below X.heap.size X w' ∧ Ok w w') :=
    fun X a b c hX ha hb hc => (divs_law a b c X X ha.1 ha.2 hb.1 hb.2 hc.1 hc.2 (Ok.refl hX.1)).mono fun _ _ ⟨p, q⟩ => ⟨p, q.2, hX.step q.2⟩
  have HG : Hid (∀ X a b c, Ok w X → -9223372036854775808 ≤ a ∧ a ≤ 9223372036854775807 → -9223372036854775808 ≤ b ∧ b ≤ 9223372036854775807 → -9223372036854775808 ≤ c ∧ c ≤ 9223372036854775807 → Calls Tryd.prog 5 #[.int .i64 a, .int .i64 b, .int .i64 c] X fun e w' => e = .returned (.bool true) ∧ Below X.heap.size X w' ∧ Ok w w') :=
    fun X a b c hX ha hb hc => (gcd_law a b c X X ha.1 ha.2 hb.1 hb.2 hc.1 hc.2 (Ok.refl hX.1)).mono fun _ _ ⟨p, q⟩ => ⟨p, q.2, hX.step q.2⟩
  have HT : Hid (∀ X a, Ok w X → -9223372036854775808 ≤ a ∧ a ≤ 9223372036854775807 → Calls Tryd.prog 6 #[.int .i64 a] X fun e w' => e = .returned (.bool true) ∧ Below X.heap.size X w' ∧ Ok w w') :=
    fun X a hX ha => (text_law a X X ha.1 ha.2 (Ok.refl hX.1)).mono fun _ _ ⟨p, q⟩ => ⟨p, q.2, hX.step q.2⟩
  go_enter Tryd.func8, Tryd.ntmps8
  go_wp2_with fail
  have l0 : W.heap.size < W.heap.size + 1 := by omega
  generalize hg : W.heap.size = g at *
  go_loopw [2] (fun iv wr => ∃ (i : Nat), i ≤ 13 ∧ iv = .int .i64 i ∧ KR g wr ∧ Ok w wr) (fun iv _ => 13 - (intOf iv).toNat)
  case atStart => exact ⟨0, by omega, rfl, by rw [← hg]; exact kr_new W _, h.step (by go_grown)⟩
  case round =>
    obtain ⟨i, hi, rfl, hk, ho⟩ := hrel
    by_cases hi13 : i = 13
    · subst hi13
      have hi1 : ¬ ((13 : Nat) : Int) < 13 := by omega
      clear HS HD HG HT hi l0 hk
      go_wp2_with (first
        | (go_at_call 7; refine (parse_law _ w _ (by decide) (by assumption)).mono ?_; rintro e w1 ⟨rfl, o1⟩)
        | (go_at_call 18; refine (lives_t w _ (by assumption)).mono ?_; rintro e w' ⟨rfl, hk⟩))
      go_ret
      exact ⟨rfl, by assumption⟩
    · have hi1 : (i : Int) < 13 := by omega
      have hi2 : i < 13 := by omega
      go_wp2_with fail
      go_loopw [3] (fun kv wi => ∃ (k : Nat), k ≤ 13 ∧ kv = .int .i64 k ∧ KR g wi ∧ Ok w wi) (fun kv _ => 13 - (intOf kv).toNat)
      case atStart => exact ⟨0, by omega, rfl, hk, ho⟩
      case round =>
        obtain ⟨k, hk13, rfl, hk2, ho2⟩ := hrel
        clear hk ho
        by_cases hke : k = 13
        · subst hke
          have hk1 : ¬ ((13 : Nat) : Int) < 13 := by omega
          have c0 := hk2.2 i hi2
          clear HS HD HG hk13
          go_wp2_with (go_at_call 6; refine (HT.out _ _ ho2 (kn_in i)).mono ?_; rintro e w1 ⟨rfl, n1, o1⟩; have hk3 := hk2.below n1)
          go_roundw
          case rel => exact ⟨i + 1, by omega, by first | rfl | go_num, hk3, o1⟩
          case measure => simp [intOf]; omega
        · have hk1 : (k : Int) < 13 := by omega
          have hk4 : k < 13 := by omega
          clear hke hk13 HT
          go_upto_region 8 with fail
          have QS : Hid (∀ X a b, Below wr.heap.size wr X → -9223372036854775808 ≤ a ∧ a ≤ 9223372036854775807 → -9223372036854775808 ≤ b ∧ b ≤ 9223372036854775807 → Calls Tryd.prog 3 #[.int .i64 a, .int .i64 b] X fun e w' => e = .returned (.bool true) ∧ Below X.heap.size X w' ∧ Below wr.heap.size wr w') :=
            fun X a b hX ha hb => (HS.out X a b (ho2.step hX) ha hb).mono fun _ _ ⟨p, q, _⟩ => ⟨p, q, hX.trans (q.mono hX.size)⟩
          have QD : Hid (∀ X a b c, Below wr.heap.size wr X → -9223372036854775808 ≤ a ∧ a ≤ 9223372036854775807 → -9223372036854775808 ≤ b ∧ b ≤ 9223372036854775807 → -9223372036854775808 ≤ c ∧ c ≤ 9223372036854775807 → Calls Tryd.prog 4 #[.int .i64 a, .int .i64 b, .int .i64 c] X fun e w' => e = .returned (.bool true) ∧ Below X.heap.size X w' ∧ Below wr.heap.size wr w') :=
            fun X a b c hX ha hb hc => (HD.out X a b c (ho2.step hX) ha hb hc).mono fun _ _ ⟨p, q, _⟩ => ⟨p, q, hX.trans (q.mono hX.size)⟩
          have QG : Hid (∀ X a b c, Below wr.heap.size wr X → -9223372036854775808 ≤ a ∧ a ≤ 9223372036854775807 → -9223372036854775808 ≤ b ∧ b ≤ 9223372036854775807 → -9223372036854775808 ≤ c ∧ c ≤ 9223372036854775807 → Calls Tryd.prog 5 #[.int .i64 a, .int .i64 b, .int .i64 c] X fun e w' => e = .returned (.bool true) ∧ Below X.heap.size X w' ∧ Below wr.heap.size wr w') :=
            fun X a b c hX ha hb hc => (HG.out X a b c (ho2.step hX) ha hb hc).mono fun _ _ ⟨p, q, _⟩ => ⟨p, q, hX.trans (q.mono hX.size)⟩
          obtain ⟨m, hm⟩ : ∃ m, m = (i + k) % 13 := ⟨_, rfl⟩
          have hm2 : m < 13 := by omega
          have hm1 : (m : Int) < 13 := by omega
          have v1 : IntKind.i64.wrap ((i : Int) + (k : Int)) = (i : Int) + (k : Int) := by rw [IntKind.wrap_i64]; omega
          have v2 : ((i : Int) + (k : Int)).tmod 13 = (m : Int) := by rw [Int.tmod_eq_emod_of_nonneg (by omega)]; omega
          have v3 : IntKind.i64.wrap (m : Int) = (m : Int) := by rw [IntKind.wrap_i64]; omega
          have c0 := hk2.2 i hi2
          have c1 := hk2.2 k hk4
          have c2 := hk2.2 m hm2
          have hlt := hk2.1
          have a0 := kn_in i
          have a1 := kn_in k
          have a2 := kn_in m
          have a3 : -9223372036854775808 ≤ (i : Int) ∧ (i : Int) ≤ 9223372036854775807 := ⟨by omega, by omega⟩
          generalize kn i = zi at *
          generalize kn k = zk at *
          generalize kn m = zm at *
          have HK := Lib.hid hk2
          have HL : Hid (i ≤ 13 ∧ ¬ i = 13 ∧ i < 13 ∧ k < 13 ∧ m < 13) := ⟨hi, hi13, hi2, hk4, hm2⟩
          clear HS HD HG hk2 hm hi hi13 hi2 hk4 hm2
          go_cut [60] from 11 to 60 (fun s8 wx => s8 = .bool false ∧ Below wr.heap.size wr wx)
          case first =>
            go_region_held3 (fun w' => w'.cell? ⟨g, i, none⟩ = some (.int .i64 zi) ∧ w'.cell? ⟨g, k, none⟩ = some (.int .i64 zk) ∧ w'.cell? ⟨g, m, none⟩ = some (.int .i64 zm)) (go_keep)
              (first
              | (go_at_call 3; refine (QS.out _ _ _ (by go_grown) a0 a1).mono ?_; rintro e x1 ⟨rfl, hy1, hX⟩; have k0 := (hX.cell (p := ⟨g, i, none⟩) hlt).trans c0; have k1 := (hX.cell (p := ⟨g, k, none⟩) hlt).trans c1; have k2 := (hX.cell (p := ⟨g, m, none⟩) hlt).trans c2)
              | (go_at_call 4; refine (QD.out _ _ _ _ (by go_grown) a0 a1 a2).mono ?_; rintro e x2 ⟨rfl, hy2, hX⟩; have k0 := (hX.cell (p := ⟨g, i, none⟩) hlt).trans c0; have k1 := (hX.cell (p := ⟨g, k, none⟩) hlt).trans c1; have k2 := (hX.cell (p := ⟨g, m, none⟩) hlt).trans c2)
              | (go_at_call 5; refine (QG.out _ _ _ _ (by go_grown) a0 a1 a3).mono ?_; rintro e x3 ⟨rfl, hy3, hX⟩; have k0 := (hX.cell (p := ⟨g, i, none⟩) hlt).trans c0; have k1 := (hX.cell (p := ⟨g, k, none⟩) hlt).trans c1; have k2 := (hX.cell (p := ⟨g, m, none⟩) hlt).trans c2))
            all_goals
              go_wp2_with fail
              go_meet
              exact ⟨by rfl, by go_grown⟩
          case rest =>
            obtain ⟨rfl, hbX⟩ := hcut
            have HK2 := Lib.hid (HK.out.below hbX)
            have o3 := ho2.step hbX
            obtain ⟨q0, q1, q2, q3, q4⟩ := HL.out
            clear v1 v2 v3 c0 c1 c2 a0 a1 a2 a3 QS QD QG HK HL
            go_wp2_with fail
            go_roundw
            case rel => exact ⟨k + 1, by omega, by first | rfl | go_num, HK2.out, o3⟩
            case measure => simp [intOf]; omega
end Go.Proofs.YtimahbomndffaaaDoor
