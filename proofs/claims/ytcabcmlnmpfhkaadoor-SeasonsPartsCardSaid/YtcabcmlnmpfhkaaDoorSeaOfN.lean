/- The law on whatever day of the calendar and code. -/
import Derived.Test.YtcabcmlnmpfhkaaDoorSeaOfM
import Derived.OwnWalk
import Derived.Maps.AppendAt
namespace Go.Proofs.YtcabcmlnmpfhkaaDoor.sea
open Go.RowKit

theorem infoI : (Tryd.prog.info? 3).map (fun i => (i.zero, i.size, i.bytes)) = some (some (.int .i64 0), 1, 8) := by kernel_rfl
theorem of_has {d c : Int} (h : ofB d c = true) : sE (ofY d c) c = 0 ∧ sLo (ofY d c) c ≤ d ∧ d ≤ sHi (ofY d c) c := by
  unfold ofB at h
  unfold ofY
  cases h1 : sIn (yrOf d - 1) c d
  · rw [h1, Bool.false_or] at h
    rw [h]
    unfold sIn at h
    simpa using h
  · unfold sIn at h1
    simpa using h1
set_option maxRecDepth 100000 in
set_option maxHeartbeats 8000000 in
theorem of_in (d c : Int) (w W : World) (hd : I64 d) (hc : I64 c) (ho : Ok w W) (hC : isC c = true) (hy : yr (yrOf d) = true) :
    Calls Tryd.prog 4 #[.int .i64 d, .int .i64 c] W fun e w' => e = .returned (.bool true) ∧ Ok w w' := by
  obtain ⟨i0, hi, hz0, hz1, hz2⟩ := info_parts infoI
  have hE : oE d c = 0 := by unfold oE; rw [hC, hy]; rfl
  have hD : dE d = 0 := by unfold dE; rw [hy]; rfl
  have hL : codesL d = codesN d 21 := codesL_in hy
  have KO : Hid (∀ X, Ok W X → Calls Tryd.prog 14 #[.int .i64 d, .int .i64 c] X fun x w' => x = .returned (.tuple #[.int .i64 (ofY d c), .bool (ofB d c), .int .i64 0]) ∧ Ok W w') := fun X hX => c_of hX d c hd hc (if_pos hE) (if_pos hE) hE
  have KC : Hid (∀ X, Ok W X → Calls Tryd.prog 15 #[.int .i64 d] X fun x w' => ∃ v, x = .returned (.tuple #[v, .int .i64 0]) ∧ Ok W w' ∧ IsL w' v (codesN d 21)) := fun X hX => (c_codes hX d hd hD).mono fun _ _ ⟨v, p, q, _, r⟩ => ⟨v, p, q, by rw [← hL]; exact r hy⟩
  have KF : Hid (∀ X, Calls Tryd.prog 16 #[.int .i64 d] X fun x w' => x = .returned (.tuple #[.int .i64 (yrOf d), .bool true]) ∧ X = w') := fun X => by rw [← hy]; exact ofR_any d X hd.1 hd.2
  have KM : Hid (∀ X, Calls Tryd.prog 8 #[.int .i64 c] X fun x w' => x = .returned (.tuple #[.int .i64 (sF c : Nat), .int .i64 (sN c : Nat)]) ∧ X = w') := smonR_any c
  have KR : Hid (∀ k B X, Ok B X → Calls Tryd.prog 17 #[.int .i64 d, .int .i64 k] X fun x w' => x = .returned (.tuple #[.int .i64 (ofY d k), .bool (ofB d k)]) ∧ Ok B w') := fun k B X hX => c_rof hX d k hd
  have hN : ((sN c : Int) == 0) = false := by have := (sFN hC).2.2.1; rw [beq_eq_false_iff_ne]; omega
  have HLi : Hid (∀ B X, Ok B X → Calls Tryd.prog 13 #[] X fun x w' => x = .returned (.bool true) ∧ Ok B w') := fun B X hX => lives_t B X hX
  have hyi : I64 (ofY d c) := by
    have := yrOf_bd d hd
    unfold ofY I64
    split
    · omega
    · split <;> omega
  have HRun : Hid (ofB d c = true → ∃ a b, a ≤ d ∧ d ≤ b ∧ ∀ B X, Ok B X → Calls Tryd.prog 10 #[.int .i64 (ofY d c), .int .i64 c] X fun x w' => x = .returned (.tuple #[D4 a b, .int .i64 0]) ∧ Ok B w') := fun h => by
    obtain ⟨q1, q2, q3⟩ := of_has h
    exact ⟨sLo (ofY d c) c, sHi (ofY d c) c, q2, q3, fun B X hX => c_run hX _ c hyi hc (rV_in q1 _) (rV_in q1 _) q1⟩
  have HO := Lib.hid ho
  have hr := Ok.refl ho.1
  have KR1 := Lib.hid (fun B X hX => KR.out c B X hX)
  clear ho hd hc hC hE hD hL hy hyi
  generalize yrOf d = yy at *
  generalize sF c = F at *
  generalize sN c = N at *
  generalize ofY d c = Y at *
  generalize hBe : ofB d c = b at *
  clear hBe
  have hne : (Y != Y) = false := by simp
  have hnb : (b != b) = false := by simp
  go_enter Tryd.func4, Tryd.ntmps4
  go_upto_region 2 with (go_at_call 14; ((with_reducible refine (KO.out _ hr).mono ?_); rintro e w1 ⟨rfl, hk1⟩))
  go_upto_region 3 with (go_at_call 15; ((with_reducible refine (KC.out _ hk1).mono ?_); rintro e w2 ⟨v, rfl, hk2, hLv⟩))
  obtain ⟨av, rfl, hLc⟩ := hLv
  clear KO KC hk1 hr
  have HLa : Hid (LisC w2 av (codesN d 21)) := hLc
  have hr2 := Ok.refl hk2.1
  have O2 := Lib.hid (HO.out.step hk2.2)
  clear hLc hk2
  go_upto_region 12 with (first
    | (go_at_call 16; ((with_reducible refine (KF.out _).mono ?_); rintro e w3 ⟨rfl, rfl⟩))
    | (go_at_call 8; ((with_reducible refine (KM.out _).mono ?_); rintro e w4 ⟨rfl, rfl⟩))
    | (go_at_call 17; ((with_reducible refine (KR1.out _ _ hr2).mono ?_); rintro e w5 ⟨rfl, hk5⟩)))
  go_upto_region 14 with fail
  have hB2 := hk5.2.size
  have LC := Lib.hid (fun X (hX : Ok w2 X) => HLa.out.below hX.2)
  clear KF KM KR1 HLa hN
  go_loopw [16, 17] (fun v kv wx => ∃ n : Nat, n ≤ 21 ∧ kv = .int .i64 (21 + (n : Int)) ∧ Ok w2 wx ∧ wx.ownsRow w2.heap.size 3 1 v (codesN d n).length (cellsI (codesN d n))) (fun _ kv _ => 60 - (intOf kv).toNat)
  case atStart => exact ⟨0, by omega, rfl, hk5, World.ownsRow_nil _ _ _ _⟩
  case round =>
    clear hk5
    obtain ⟨n, hn, rfl, hX, hown⟩ := hrel
    by_cases h21 : n = 21
    · subst h21
      have hl : ¬ (21 : Int) + ((21 : Nat) : Int) < 42 := by omega
      obtain ⟨aw, m, rfl, hLw⟩ := lisC_of_own hown
      have HLl := Lib.hid (list_t (codesN d 21) av aw m wr (Nat.le_trans (codesN_len d 21) (by omega)) (LC.out _ hX) hLw)
      have HX := Lib.hid hX
      clear hown hLw LC hX
      generalize codesN d 21 = CL at *
      cases b with
      | false =>
        go_wp2_with (first
          | (go_at_call 18; ((with_reducible refine HLl.out.mono ?_); rintro e w6 ⟨rfl, hb6⟩; have o6 := HX.out.step hb6))
          | (go_at_call 13; ((with_reducible refine (HLi.out _ _ o6).mono ?_); rintro e w7 ⟨rfl, hk7⟩)))
        go_ret
        exact ⟨rfl, O2.out.step hk7.2⟩
      | true =>
        obtain ⟨ra, rb, h1, h2, HR⟩ := HRun.out rfl
        have HR' := Lib.hid HR
        clear HRun HR
        go_upto_region 23 with (first
          | (go_at_call 18; ((with_reducible refine HLl.out.mono ?_); rintro e w6 ⟨rfl, hb6⟩; have o6 := HX.out.step hb6))
          | (go_at_call 10; ((with_reducible refine (HR'.out _ _ o6).mono ?_); rintro e w7 ⟨rfl, hk7⟩)))
        have hBn := BkR.new w7 0 ra 0 rb
        have o8 := hk7.step ((Below.refl _ w7).alloc (Nat.le_refl _) (.cells #[.int .i8 0, .int .i64 ra, .int .i8 0, .int .i64 rb] 32))
        generalize (w7.alloc (Obj.cells #[Value.int IntKind.i8 0, Value.int IntKind.i64 ra, Value.int IntKind.i8 0, Value.int IntKind.i64 rb] 32)) = W8 at *
        generalize w7.heap.size = g8 at *
        obtain ⟨m0, m1, m2, m3⟩ := hBn.four
        have h3 : ¬ d < ra := by omega
        have h4 : ¬ rb < d := by omega
        clear h1 h2 hBn hk7
        go_wp2_with (go_at_call 13; ((with_reducible refine (HLi.out _ _ o8).mono ?_); rintro e w9 ⟨rfl, hk9⟩))
        go_ret
        exact ⟨rfl, O2.out.step hk9.2⟩
    · have hl : (21 : Int) + (n : Int) < 42 := by omega
      have hsn := codesN_succ d n
      have HR1 := Lib.hid (KR.out (21 + (n : Int)) _ _ (Ok.refl hX.1))
      have hlen := codesN_len d n
      cases hb : ofB d (21 + (n : Int)) with
      | false =>
        rw [hb] at hsn HR1
        have HS : Hid (codesN d (n + 1) = codesN d n) := by show _ = _; rw [hsn]; simp
        have HX := Lib.hid hX
        have HW := Lib.hid hown
        clear hsn hb hX hown
        go_wp2_with (go_at_call 17; ((with_reducible refine HR1.out.mono ?_); rintro e w6 ⟨rfl, hk6⟩))
        go_roundw
        case rel => exact ⟨n + 1, by omega, by go_num, HX.out.step hk6.2, by rw [HS.out]; exact own_below HW.out hk6.2⟩
        case measure => simp [intOf]; omega
      | true =>
        rw [hb] at hsn HR1
        have HS : Hid (codesN d (n + 1) = codesN d n ++ [21 + (n : Int)]) := by show _ = _; rw [hsn]; simp
        have HX := Lib.hid hX
        have HW := Lib.hid hown
        clear hsn hb hX hown
        go_upto_region 18 with (go_at_call 17; ((with_reducible refine HR1.out.mono ?_); rintro e w6 ⟨rfl, hk6⟩))
        have hown := own_below HW.out hk6.2
        have o6 := HX.out.step hk6.2
        have hsz := o6.2.size
        have hlt := hown.lt
        go_wp2_with (at_builtin; refine wpList_append_own _ rfl _ _ 42 rfl w2.heap.size 3 i0 (.int .i64 0) 1 8 Tryd.underlying42 hi hz0 hz1 hz2 rfl (by decide) _ _ _ rfl (hown.alloc _) ⟨w6.heap.size, 0, none⟩ 1 1 [.int .i64 (21 + (n : Int))] rfl rfl ?c1 ?c2 ?c3 ?c4 ?c5 ?_)
        case c1 => exact cell_one_new _ _ _
        case c2 => intro u hu; rw [List.mem_singleton.1 hu]; rfl
        case c3 => unfold maxLen; omega
        case c4 => omega
        case c5 => simp; omega
        intro v' w7 hown1 hg1 _
        rw [← cellsI_snoc] at hown1
        have hlo : (codesN d n ++ [21 + (n : Int)]).length = (codesN d n).length + 1 := by simp
        rw [← hlo] at hown1
        have ob : Below w2.heap.size w2 w7 := (o6.2.alloc (by omega) _).grown hg1 (by simp; omega) (fun k hk => (hlt k hk).1)
        have HN1 := Lib.hid hown1
        have OB : Hid (Ok w2 w7) := hr2.step ob
        clear hown1 hg1 hlo ob hown o6 hk6 hlt
        go_wp2_with fail
        go_roundw
        case rel => exact ⟨n + 1, by omega, by go_num, OB.out, by rw [HS.out]; exact HN1.out⟩
        case measure => simp [intOf]; omega
theorem of_law (d c : Int) (w W : World) (hd : I64 d) (hc : I64 c) (ho : Ok w W) :
    Calls Tryd.prog 4 #[.int .i64 d, .int .i64 c] W fun e w' => e = .returned (.bool true) ∧ Ok w w' := by
  cases h : isC c
  · exact of_code d c w W hd hc ho h
  · cases hy : yr (yrOf d)
    · exact of_out d c w W hd hc ho h hy
    · exact of_in d c w W hd hc ho h hy
end Go.Proofs.YtcabcmlnmpfhkaaDoor.sea
