/- The reference of civil days (circaref06): Parse, of texts that have their minus signs and digits in place. -/
import Derived.Test.YtiemlpmhhbmfiaaGreatDoorCivPa
namespace Go.Proofs.YtiemlpmhhbmfiaaGreatDoor
open Go.RowKit

theorem bare_cons {l : List UInt8} (h : 0 < l.length) : (l[0] = 45 → negB l = true ∧ bare l = l.drop 1) ∧ (l[0] ≠ 45 → negB l = false ∧ bare l = l) := by
  match l, h with
  | c :: r, _ =>
    constructor
    · intro e
      obtain rfl : c = 45 := e
      exact ⟨hp_minus r, bare_minus r⟩
    · intro e
      exact ⟨hp_other r e, bare_other r e⟩
/-- What is asked of a year's digits. -/
def yOkZ (b : Bool) (z : List UInt8) : Bool := decide (4 ≤ z.length) && z.all digitB && !(decide (4 < z.length) && decide (z.head? = some 48)) && !(b && decide (z = [48, 48, 48, 48]))
theorem yOk_Z {l z : List UInt8} {b : Bool} (h1 : negB l = b) (h2 : bare l = z) : yOk l = yOkZ b z := by unfold yOk yOkZ; rw [h1, h2]
theorem numFrom_lt (l : List UInt8) (h : l.all digitB = true) : numFrom 0 l < 10 ^ l.length := by
  have := valD_lt (digs_10 h)
  rwa [digs_val, digs_len] at this
theorem text_of {l : List UInt8} (h : l.all digitB = true) (h1 : 1 ≤ l.length) (h2 : l.length = 1 ∨ l.head? ≠ some 48) : isTextB l = true ∧ valB l = (numFrom 0 l : Nat) := by
  match l, h1 with
  | c :: r, _ =>
    have hc : digitB c = true := by rw [List.all_cons, Bool.and_eq_true] at h; exact h.1
    have h45 : c ≠ 45 := fun e => by rw [e] at hc; revert hc; decide
    have hb := bare_other r h45
    constructor
    · unfold isTextB
      rw [hb]
      simp only
      split
      · rename_i h48
        have e48 : c = 48 := UInt8.toNat_inj.1 h48
        rcases h2 with h2 | h2
        · have : r = [] := List.eq_nil_of_length_eq_zero (by simpa using h2)
          subst this; subst e48; rfl
        · exact absurd (by rw [e48]; rfl) h2
      · exact h
    · unfold valB
      rw [hb]
      have := hp_other r h45
      rw [this] <;> rfl

/-- The digits of month and day. -/
theorem places (s : ByteArray) (n : Nat) (hn : s.size = n + 6) (h1 : digS (s.extract (n + 4) (n + 6)) = true) (h2 : digS (s.extract (n + 1) (n + 3)) = true) :
    ∃ a b c d : Nat, a ≤ 9 ∧ b ≤ 9 ∧ c ≤ 9 ∧ d ≤ 9 ∧ (s[n + 1]'(by omega)).toNat = 48 + a ∧ (s[n + 2]'(by omega)).toNat = 48 + b ∧ (s[n + 4]'(by omega)).toNat = 48 + c ∧ (s[n + 5]'(by omega)).toNat = 48 + d ∧ cM s.data.toList = 10 * a + b ∧ cD s.data.toList = 10 * c + d := by
  have hl : s.data.toList.length = n + 6 := by rw [← hn]; exact (size_l s).symm
  have e1 : s.data.toList.drop (n + 4) = [s[n + 4]'(by omega), s[n + 5]'(by omega)] := by
    rw [List.drop_eq_getElem_cons (by omega), List.drop_eq_getElem_cons (by omega), List.drop_of_length_le (by omega)]; rfl
  have e2 : (s.data.toList.drop (n + 1)).take 2 = [s[n + 1]'(by omega), s[n + 2]'(by omega)] := by
    rw [List.drop_eq_getElem_cons (by omega), List.drop_eq_getElem_cons (by omega)]; rfl
  rw [digS_ext s _ _ (by omega), show n + 6 - (n + 4) = 2 by omega, e1] at h1
  rw [digS_ext s _ _ (by omega), show n + 3 - (n + 1) = 2 by omega, e2] at h2
  simp only [List.take, List.all_cons, List.all_nil, Bool.and_true, Bool.and_eq_true, digitB, decide_eq_true_eq] at h1 h2
  refine ⟨(s[n + 1]'(by omega)).toNat - 48, (s[n + 2]'(by omega)).toNat - 48, (s[n + 4]'(by omega)).toNat - 48, (s[n + 5]'(by omega)).toNat - 48, by omega, by omega, by omega, by omega, by omega, by omega, by omega, by omega, ?_, ?_⟩
  · unfold cM; rw [hl, show n + 6 - 5 = n + 1 by omega, e2]; simp [numFrom]; omega
  · unfold cD; rw [hl, show n + 6 - 2 = n + 4 by omega, e1]; simp [numFrom]; omega

set_option maxHeartbeats 12800000 in
set_option maxRecDepth 100000 in
theorem cprsR_good (s : ByteArray) (w : World) (hs : s.size ≤ 100) (n : Nat) (hn : s.size = n + 6) (h10 : ¬ s.size < 10)
    (h3 : s[n + 3]'(by omega) = 45) (h6 : s[n]'(by omega) = 45) (hd1 : digS (s.extract (n + 4) (n + 6)) = true) (hd2 : digS (s.extract (n + 1) (n + 3)) = true) :
    Calls Tryz.prog 30 #[.string s] w fun e w' => e = .returned (.tuple #[.agg #[.int .i64 (cpV s.data.toList (cY s.data.toList)), .int .i64 (cpV s.data.toList (cM s.data.toList)), .int .i64 (cpV s.data.toList (cD s.data.toList))], .int .i64 (cpE s.data.toList)]) ∧ Below w.heap.size w w' := by
  have h10' : ¬ (s.size : Int) < 10 := by omega
  have i1 : (s.size : Int) - 3 = ((n + 3 : Nat) : Int) := by omega
  have i2 : (s.size : Int) - 6 = ((n : Nat) : Int) := by omega
  have i3 : (s.size : Int) - 2 = ((n + 4 : Nat) : Int) := by omega
  have i4 : (s.size : Int) - 5 = ((n + 1 : Nat) : Int) := by omega
  have j1 : n + 3 < s.size := by omega
  have j2 : n < s.size := by omega
  have hfm := form_at s n hn h10
  rw [decide_eq_true h3, decide_eq_true h6, hd1, hd2] at hfm
  simp only [Bool.true_and] at hfm
  have HMD := Lib.hid (places s n hn hd1 hd2)
  have HD : Hid (∀ x W, x.size ≤ 100 → Calls Tryz.prog 57 #[.string x] W fun e w' => e = .returned (.bool (digS x)) ∧ W = w') := fun x W hx => digR_any x W (by omega)
  have z1 : (s.extract (n + 4) (n + 6)).size ≤ 100 := by rw [ByteArray.size_extract]; omega
  have z2 : (s.extract (n + 1) (n + 3)).size ≤ 100 := by rw [ByteArray.size_extract]; omega
  have h3' : ((s[n + 3].toNat : Nat) : Int) = 45 := by rw [h3]; rfl
  have h6' : ((s[n].toNat : Nat) : Int) = 45 := by rw [h6]; rfl
  have HFM := Lib.hid hfm
  clear h3 h6 hfm
  go_enter Tryz.func30, Tryz.ntmps30
  go_upto_region 5 with (go_at_call 57; refine (HD.out _ _ (by assumption)).mono ?_; rintro e w' ⟨rfl, rfl⟩)
  have hYs : (s.extract 0 n).size = n := by rw [ByteArray.size_extract]; omega
  have hYl : (s.extract 0 n).data.toList = s.data.toList.take n := by rw [ext_l s 0 n (by omega)]; simp
  have HYL := Lib.hid hYl
  clear hYl hd1 hd2 z1 z2 i1 i2 i3 i4 h3' h6'
  have hn4 : 4 ≤ n := by omega
  have hn94 : n ≤ 94 := by omega
  generalize s.extract 0 n = Y at *
  have hi0 : 0 < Y.size := by omega
  have hY0 : 0 < Y.data.toList.length := by rw [← size_l]; omega
  have hB := bare_cons hY0
  obtain ⟨b, hb⟩ : ∃ b : Bool, (((Y[0]'hi0).toNat : Int) == 45) = b := ⟨_, rfl⟩
  have HB0 : Hid (negB Y.data.toList = b ∧ bare Y.data.toList = if b = true then Y.data.toList.drop 1 else Y.data.toList) := by
    cases b with
    | true =>
      have e : Y[0]'hi0 = 45 := UInt8.toNat_inj.1 (by rw [beq_iff_eq] at hb; show (Y[0]'hi0).toNat = 45; omega)
      exact hB.1 e
    | false =>
      have e : Y[0]'hi0 ≠ 45 := fun e => by rw [beq_eq_false_iff_ne, e] at hb; exact hb rfl
      exact hB.2 e
  clear hB hY0
  go_upto_if 57 with fail
  clear hb
  go_cut [5] (fun v wx => ∃ Z : ByteArray, v = .string Z ∧ 3 ≤ Z.size ∧ Z.size ≤ 94 ∧ Hid (bare Y.data.toList = Z.data.toList) ∧ wx = w.alloc (.cells #[.int .i64 0, .int .i64 0, .int .i64 0] 23))
  case first =>
    cases b with
    | true =>
      have hX : Hid (bare Y.data.toList = (Y.extract 1 n).data.toList) := by
        show _ = _
        rw [HB0.out.2, if_pos rfl, ext_l Y 1 n (by omega)]; exact (List.take_of_length_le (by rw [List.length_drop, ← size_l]; omega)).symm
      have hXs : (Y.extract 1 n).size = n - 1 := by rw [ByteArray.size_extract]; omega
      clear HB0 HFM HD HMD
      go_wp2_with fail
      go_meet
      case rel => exact ⟨_, rfl, by rw [hXs]; omega, by rw [hXs]; omega, hX, rfl⟩
    | false =>
      have hX : Hid (bare Y.data.toList = Y.data.toList) := by
        show _ = _
        rw [HB0.out.2, if_neg (by decide)]
      clear HB0 HFM HD HMD
      go_wp2_with fail
      go_meet
      case rel => exact ⟨_, rfl, by omega, by omega, hX, rfl⟩
  case rest =>
    obtain ⟨Z, rfl, hZ3, hZ94, HZ, rfl⟩ := hcut
    have HOK : Hid (cForm s.data.toList = yOkZ b Z.data.toList) := HFM.out.trans (yOk_Z (by rw [← HYL.out]; exact HB0.out.1) (by rw [← HYL.out]; exact HZ.out))
    have HCY : Hid (cY s.data.toList = sgv b (numFrom 0 Z.data.toList)) := by
      show _ = _
      unfold cY
      rw [show s.data.toList.length - 6 = n by rw [← size_l]; omega, ← HYL.out, HB0.out.1, HZ.out]
    have hZ0 : 0 < Z.size := by omega
    have HZlen : Hid (Z.size = Z.data.toList.length) := size_l Z
    clear HFM HZ HYL HB0 hYs hi0
    clear Y
    go_upto_region 8 with fail
    go_cut [84] (fun v wx => v = .bool (!(yOkZ b Z.data.toList)) ∧ wx = w.alloc (.cells #[.int .i64 0, .int .i64 0, .int .i64 0] 23))
    case first =>
      clear HCY HMD HOK
      by_cases c1 : Z.size < 4
      · have hres : Hid (yOkZ b Z.data.toList = false) := by
          show _ = _
          unfold yOkZ; rw [decide_eq_false (by rw [← HZlen.out]; omega)] <;> rfl
        have c1' : (Z.size : Int) < 4 := by omega
        clear c1 HZlen
        go_wp2_with (go_at_call 57; refine (HD.out _ _ (by omega)).mono ?_; rintro e w' ⟨rfl, rfl⟩)
        go_meet
        case rel => exact ⟨by rw [hres.out]; rfl, rfl⟩
      · have c1' : ¬ (Z.size : Int) < 4 := by omega
        cases c2 : digS Z with
        | false =>
          have hres : Hid (yOkZ b Z.data.toList = false) := by
            show _ = _
            unfold yOkZ
            have : Z.data.toList.all digitB = false := c2
            rw [this]; simp
          clear c1 HZlen
          go_wp2_with (go_at_call 57; refine (HD.out _ _ (by omega)).mono ?_; rintro e w' ⟨rfl, rfl⟩)
          go_meet
          case rel => exact ⟨by rw [hres.out]; rfl, rfl⟩
        | true =>
          have C2 : Z.data.toList.all digitB = true := c2
          by_cases c3 : 4 < Z.size ∧ Z[0]'hZ0 = 48
          · obtain ⟨c3, c4⟩ := c3
            have hres : Hid (yOkZ b Z.data.toList = false) := by
              show _ = _
              unfold yOkZ
              have e1 : Z.data.toList.head? = some 48 := by
                rw [List.head?_eq_getElem?, List.getElem?_eq_getElem (by rw [← HZlen.out]; omega)]
                exact congrArg some c4
              rw [decide_eq_true e1, decide_eq_true (show 4 < Z.data.toList.length by rw [← HZlen.out]; exact c3)]; simp
            have c3' : 4 < (Z.size : Int) := by omega
            have c4' : (((Z[0]'hZ0).toNat : Nat) : Int) = 48 := by rw [c4]; rfl
            clear c1 c3 c4 C2 HZlen
            go_wp2_with (go_at_call 57; refine (HD.out _ _ (by omega)).mono ?_; rintro e w' ⟨rfl, rfl⟩)
            go_meet
            case rel => exact ⟨by rw [hres.out]; rfl, rfl⟩
          · have c5 : ¬ (4 < (Z.size : Int)) ∨ (4 < (Z.size : Int) ∧ ((((Z[0]'hZ0).toNat : Nat) : Int) == 48) = false) := by
              rcases Nat.lt_or_ge 4 Z.size with q | q
              · exact .inr ⟨by omega, by rw [beq_eq_false_iff_ne]; exact fun e => c3 ⟨q, UInt8.toNat_inj.1 (by show (Z[0]'hZ0).toNat = 48; omega)⟩⟩
              · exact .inl (by omega)
            have c6 : (decide (4 < Z.data.toList.length) && decide (Z.data.toList.head? = some 48)) = false := by
              rw [Bool.and_eq_false_iff, decide_eq_false_iff_not, decide_eq_false_iff_not]
              rcases Nat.lt_or_ge 4 Z.size with q | q
              · right
                intro e
                refine c3 ⟨q, ?_⟩
                rw [List.head?_eq_getElem?, List.getElem?_eq_getElem (by rw [← HZlen.out]; omega)] at e
                exact Option.some.inj e
              · left; rw [← HZlen.out]; omega
            clear c3
            cases b with
            | true =>
              by_cases c7 : Z.data.toList = [48, 48, 48, 48]
              · have hres : Hid (yOkZ true Z.data.toList = false) := by
                  show _ = _
                  unfold yOkZ
                  rw [decide_eq_true c7]; simp
                have c7' : (Z.toList == [48, 48, 48, 48]) = true := by rw [beq_iff_eq, ByteArray.toList_eq]; exact c7
                have c8 : ¬ (4 < (Z.size : Int)) := by rw [size_l Z, c7]; simp
                clear c1 c5 c6 c7 C2 HZlen
                go_wp2_with (go_at_call 57; refine (HD.out _ _ (by omega)).mono ?_; rintro e w' ⟨rfl, rfl⟩)
                go_meet
                case rel => exact ⟨by rw [hres.out]; rfl, rfl⟩
              · have hres : Hid (yOkZ true Z.data.toList = true) := by
                  show _ = _
                  unfold yOkZ
                  rw [c6, decide_eq_true (show 4 ≤ Z.data.toList.length by rw [← HZlen.out]; omega), C2, decide_eq_false c7]; rfl
                have c7' : (Z.toList == [48, 48, 48, 48]) = false := by rw [beq_eq_false_iff_ne, ByteArray.toList_eq]; exact c7
                clear c1 c6 c7 C2 HZlen
                rcases c5 with c5 | ⟨c5, c8⟩
                all_goals
                  go_wp2_with (go_at_call 57; refine (HD.out _ _ (by omega)).mono ?_; rintro e w' ⟨rfl, rfl⟩)
                  go_meet
                  case rel => exact ⟨by rw [hres.out]; rfl, rfl⟩
            | false =>
              have hres : Hid (yOkZ false Z.data.toList = true) := by
                show _ = _
                unfold yOkZ
                rw [c6, decide_eq_true (show 4 ≤ Z.data.toList.length by rw [← HZlen.out]; omega), C2]; rfl
              clear c1 c6 C2 HZlen
              rcases c5 with c5 | ⟨c5, c8⟩
              all_goals
                go_wp2_with (go_at_call 57; refine (HD.out _ _ (by omega)).mono ?_; rintro e w' ⟨rfl, rfl⟩)
                go_meet
                case rel => exact ⟨by rw [hres.out]; rfl, rfl⟩
    case rest =>
      obtain ⟨rfl, rfl⟩ := hcut
      cases hok : yOkZ b Z.data.toList with
      | false =>
        have hE : Hid (cForm s.data.toList = false) := HOK.out.trans hok
        clear HOK HCY HZlen hok HD HMD
        go_wp2_with fail
        refine bodyPost_ret (res_civ2 rfl rfl rfl (BkC.new w 0 0 0).three) rfl ⟨?_, (Below.refl _ w).alloc (Nat.le_refl _) _⟩
        rw [cpE_no hE.out, cpV_no (by rw [cpE_no hE.out]; omega), cpV_no (by rw [cpE_no hE.out]; omega), cpV_no (by rw [cpE_no hE.out]; omega)] <;> rfl
      | true =>
        have hE : Hid (cForm s.data.toList = true) := HOK.out.trans hok
        have C2 : Hid (Z.data.toList.all digitB = true) := by
          unfold yOkZ at hok
          simp only [Bool.and_eq_true] at hok
          exact hok.1.1.2
        have HNL : Hid (numFrom 0 Z.data.toList < lim) := by
          have := numFrom_lt Z.data.toList C2.out
          show _ < _
          refine Nat.lt_of_lt_of_le this (Nat.pow_le_pow_right (by omega) (by rw [← HZlen.out]; omega))
        clear HOK HZlen hok HD
        go_wp2_with fail
        generalize hNg : numFrom 0 Z.data.toList = N at *
        have HNg := Lib.hid hNg
        clear hNg
        go_loop [5] (fun v => ∃ V : ByteArray, v = .string V ∧ 1 ≤ V.size ∧ V.size ≤ Z.size ∧ Hid (V.data.toList.all digitB = true ∧ numFrom 0 V.data.toList = N)) (fun v => match v with | .string V => V.size | _ => 0)
        case atStart => exact ⟨Z, rfl, by omega, Nat.le_refl _, C2.out, HNg.out⟩
        case round =>
          obtain ⟨V, rfl, hV1, hV2, hV⟩ := hrel; have hV0 : 0 < V.size := hV1
          have hVl : V.data.toList.length = V.size := (size_l V).symm
          have hVc : V.data.toList = V[0]'hV0 :: V.data.toList.drop 1 := by
            exact List.drop_eq_getElem_cons (show 0 < V.data.toList.length by omega)
          by_cases g1 : 1 < V.size ∧ V[0]'hV0 = 48
          · obtain ⟨g1, g2⟩ := g1
            have g1' : 1 < (V.size : Int) := by omega
            have g2' : (((V[0]'hV0).toNat : Nat) : Int) = 48 := by rw [g2]; rfl
            have HX : Hid ((V.extract 1 V.size).data.toList.all digitB = true ∧ numFrom 0 (V.extract 1 V.size).data.toList = N) := by
              have e : (V.extract 1 V.size).data.toList = V.data.toList.drop 1 := by
                rw [ext_l V 1 V.size (Nat.le_refl _)]; exact List.take_of_length_le (by rw [List.length_drop]; omega)
              have h1 := hV.out.1
              have h2 := hV.out.2
              rw [hVc, List.all_cons, Bool.and_eq_true] at h1
              rw [hVc, g2] at h2
              show _ ∧ _
              rw [e]
              exact ⟨h1.2, h2⟩
            have HXs : (V.extract 1 V.size).size = V.size - 1 := by rw [ByteArray.size_extract]; omega
            clear hV hVc g2
            go_wp2_with fail
            go_round
            case rel => exact ⟨_, rfl, by rw [HXs]; omega, by rw [HXs]; omega, HX⟩
            case measure => show (V.extract 1 V.size).size < V.size; rw [HXs]; omega
          · have hT := text_of hV.out.1 (by omega) (by
              rw [hVl]
              rcases Nat.lt_or_ge 1 V.size with q | q
              · exact .inr fun e => g1 ⟨q, by rw [hVc] at e; simpa using e⟩
              · exact .inl (by omega))
            rw [hV.out.2] at hT
            have HT1 := Lib.hid hT.1
            have HT2 := Lib.hid hT.2
            have hV100 : V.size ≤ 100 := by omega
            have g3 : ¬ (1 < (V.size : Int)) ∨ (1 < (V.size : Int) ∧ ((((V[0]'hV0).toNat : Nat) : Int) == 48) = false) := by
              rcases Nat.lt_or_ge 1 V.size with q | q
              · exact .inr ⟨by omega, by rw [beq_eq_false_iff_ne]; exact fun e => g1 ⟨q, UInt8.toNat_inj.1 (by show (V[0]'hV0).toNat = 48; omega)⟩⟩
              · exact .inl (by omega)
            clear hV hVc hT hVl g1
            go_upto_region 10 with fail
            go_cut [93] (fun v wx => v = .bool false ∧ wx = w.alloc (.cells #[.int .i64 0, .int .i64 0, .int .i64 0] 23))
            case first =>
              clear HCY HNL HMD hE
              rcases g3 with g3 | ⟨g3, g4⟩
              all_goals
                go_wp2_with fail
                go_meet
                case rel => exact ⟨rfl, rfl⟩
            case rest =>
              obtain ⟨rfl, rfl⟩ := hcut
              clear g3
              go_wp2_with fail
              refine (parseR_gen V true _ _ hV100 HT1 HT2).mono ?_
              rintro e w1 ⟨b1, A1, m1, k1, rfl, hN, hb1⟩
              have hN1 := hN rfl
              have hBC1 : BkC w1 w.heap.size 0 0 0 := (BkC.new w 0 0 0).below (by simp) hb1
              have hwb : Below w.heap.size w w1 := ((Below.refl w.heap.size w).alloc (Nat.le_refl _) _).trans (hb1.mono (by simp))
              have hlt1 : w.heap.size < w1.heap.size := by have := hb1.size; simp at this; omega
              clear HT1 HT2 hN hb1 hV100
              simp only []
              go_upto_if 101 with fail
              have hN2 : IsN (w1.alloc (.cells #[.bool b1, .slice A1 m1 k1] 84)) (.agg #[.bool b1, .slice A1 m1 k1]) (N : Nat) := hN1.below ((Below.refl _ w1).alloc (Nat.le_refl _) _)
              go_cut [] (fun wx => ∃ b3 A3 m3 k3, IsN wx (.agg #[.bool b3, .slice A3 m3 k3]) (sgv b N) ∧ Bk wx w1.heap.size #[.bool b3, .slice A3 m3 k3] ∧ Below w1.heap.size w1 wx)
              case first =>
                cases b with
                | true =>
                  clear HCY hE HMD
                  go_wp2_with fail
                  refine (neg_any _ _ _ hN2 HNL.out).mono ?_
                  rintro e w2 ⟨r, rfl, hr, hb2⟩
                  obtain ⟨b3, A3, m3, k3, rfl⟩ := id hr.form
                  have hbk : Bk w2 w1.heap.size #[.bool b1, .slice A1 m1 k1] := (Bk.new w1 _).below hb2 (by simp)
                  have q0 := hbk.cell 0
                  have q1 := hbk.cell 1
                  simp at q0 q1
                  have f0 := hbk.frozen 0
                  have f1 := hbk.frozen 1
                  have hB12 : Below w1.heap.size w1 w2 := ((Below.refl w1.heap.size w1).alloc (Nat.le_refl _) _).trans (hb2.mono (by simp))
                  have hN3 := (hr.put hbk 0 (.bool b3)).put (hbk.put 0 (.bool b3)) 1 (.slice A3 m3 k3)
                  have hbk3 := (hbk.put 0 (.bool b3)).put 1 (.slice A3 m3 k3)
                  simp only []
                  go_wp2_with fail
                  go_meet
                  case rel => exact ⟨b3, A3, m3, k3, hN3, hbk3, (hB12.setCell (by simp) _).setCell (by simp) _⟩
                | false =>
                  clear HCY hE HMD
                  go_wp2_with fail
                  go_meet
                  case rel => exact ⟨b1, A1, m1, k1, hN2, Bk.new w1 _, (Below.refl w1.heap.size w1).alloc (Nat.le_refl _) _⟩
              case rest =>
                obtain ⟨b3, A3, m3, k3, hN3, hbk3, hB3⟩ := hcut
                have q0 := hbk3.cell 0
                have q1 := hbk3.cell 1
                simp at q0 q1
                have hBC3 := hBC1.below hlt1 hB3
                have hwb3 := hwb.trans (hB3.mono (Nat.le_of_lt hlt1))
                have hlt3 : w.heap.size < wc.heap.size := Nat.lt_of_lt_of_le hlt1 hB3.size
                clear hN1 hN2 hbk3 hB3 hBC1 hwb
                go_wp2_with fail
                refine (int_any _ _ _ hN3 (by rw [sgv_abs]; exact HNL.out)).mono ?_
                rintro e w4 ⟨rfl, hb4⟩
                have hBC4 : BkC w4 w.heap.size 0 0 0 := hBC3.below hlt3 hb4
                have hwb4 : Below w.heap.size w w4 := bthen' hwb3 hb4
                have HCY4 := HCY
                clear q0 q1 hN3 HNL hlt1
                obtain ⟨z, hz⟩ : ∃ z : Int, z = sgv b N := ⟨_, rfl⟩
                rw [← hz] at HCY4 ⊢
                clear hz HCY hBC3 hwb3 hlt3 hb4
                obtain ⟨k0, k1', k2⟩ := hBC4.three
                have f0 := hBC4.frozen 0
                have f1 := hBC4.frozen 1
                have f2 := hBC4.frozen 2
                have hlt4 : w.heap.size < w4.heap.size := block_lt_of_cell k0
                simp only []
                by_cases hfit : -9223372036854775808 ≤ z ∧ z ≤ 9223372036854775807
                · have e1 : fitsB z = true := decide_eq_true hfit
                  have e2 : fitV z = z := if_pos hfit
                  rw [e1, e2]
                  clear e1 e2
                  have HI : Hid (∀ W, Calls Tryz.prog 31 #[.int .i64 z] W fun e w' => e = .returned (.bool (yr z)) ∧ W = w') := fun W => isR_any z W
                  cases hy : yr z with
                  | false =>
                    have E6 : Hid (cpE s.data.toList = 6) := by
                      show _ = _
                      unfold cpE
                      rw [if_pos hE.out, HCY4.out]
                      unfold cE mE
                      rw [hy]; simp

                    rw [hy] at HI
                    clear hfit hy
                    repeat (first | (go_at_call 31; refine (HI.out _).mono ?_; rintro e w' ⟨rfl, rfl⟩) | go_values | go_skip | go_guarded | go_step | go_upon | (simp only [Int.not_lt, Int.not_le] at *; go_simp) | (go_values <;> (try go_simp)) | (go_ite <;> go_prune <;> (try go_simp)))
                    refine bodyPost_ret (res_civ2 rfl rfl rfl (hBC4.store 0 0 0).three) rfl ⟨?_, ((hwb4.setCell (Nat.le_refl _) _).setCell (Nat.le_refl _) _).setCell (Nat.le_refl _) _⟩
                    rw [E6.out, cpV_no (by rw [E6.out]; omega), cpV_no (by rw [E6.out]; omega), cpV_no (by rw [E6.out]; omega)] <;> rfl
                  | true =>
                    rw [hy] at HI
                    obtain ⟨a, b, c, d, a9, b9, c9, d9, ea, eb, ec, ed, eM, eD⟩ := HMD.out
                    have ea' : (((s[n + 1]'(by omega)).toNat : Nat) : Int) = 48 + (a : Int) := by omega
                    have eb' : (((s[n + 2]'(by omega)).toNat : Nat) : Int) = 48 + (b : Int) := by omega
                    have ec' : (((s[n + 4]'(by omega)).toNat : Nat) : Int) = 48 + (c : Int) := by omega
                    have ed' : (((s[n + 5]'(by omega)).toNat : Nat) : Int) = 48 + (d : Int) := by omega
                    have u1 : (n : Int) + 6 - 5 = ((n + 1 : Nat) : Int) := by omega
                    have u2 : (n : Int) + 6 - 4 = ((n + 2 : Nat) : Int) := by omega
                    have u3 : (n : Int) + 6 - 2 = ((n + 4 : Nat) : Int) := by omega
                    have u4 : (n : Int) + 6 - 1 = ((n + 5 : Nat) : Int) := by omega
                    have v1 : n + 1 < s.size := by omega
                    have v2 : n + 2 < s.size := by omega
                    have v3 : n + 4 < s.size := by omega
                    have v4 : n + 5 < s.size := by omega
                    have y5 : (5 : Int) ≤ (n : Int) + 6 := by omega
                    have y4 : (4 : Int) ≤ (n : Int) + 6 := by omega
                    have y2 : (2 : Int) ≤ (n : Int) + 6 := by omega
                    have y1 : (1 : Int) ≤ (n : Int) + 6 := by omega
                    have x5 : (n : Int) + 6 - 5 < (n : Int) + 6 := by omega
                    have x4 : (n : Int) + 6 - 4 < (n : Int) + 6 := by omega
                    have x2 : (n : Int) + 6 - 2 < (n : Int) + 6 := by omega
                    have x1 : (n : Int) + 6 - 1 < (n : Int) + 6 := by omega
                    have p1 : (0 : Int) ≤ (n : Int) + 1 := by omega
                    have r1 : (n : Int) + 1 < (n : Int) + 6 := by omega
                    have p2 : (0 : Int) ≤ (n : Int) + 2 := by omega
                    have r2 : (n : Int) + 2 < (n : Int) + 6 := by omega
                    have p4 : (0 : Int) ≤ (n : Int) + 4 := by omega
                    have r4 : (n : Int) + 4 < (n : Int) + 6 := by omega
                    have p5 : (0 : Int) ≤ (n : Int) + 5 := by omega
                    have r5 : (n : Int) + 5 < (n : Int) + 6 := by omega
                    have HM := Lib.hid eM
                    have HDy := Lib.hid eD
                    clear ea eb ec ed eM eD HMD
                    have HCP : Hid (cpE s.data.toList = cE z ((10 * a + b : Nat) : Int) ((10 * c + d : Nat) : Int)) := by
                      show _ = _
                      unfold cpE
                      rw [if_pos hE.out, HCY4.out, HM.out, HDy.out]
                    go_upto_region 18 with (go_at_call 31; refine (HI.out _).mono ?_; rintro e w' ⟨rfl, rfl⟩)
                    clear HI
                    go_cut [11] (fun v wx => v = .pointer (some ⟨w4.heap.size, 0, none⟩) ∧ Three w4.heap.size z ((10 * a + b : Nat) : Int) ((10 * c + d : Nat) : Int) wx ∧ w4.heap.size < wx.heap.size ∧ Below w4.heap.size w4 wx)
                    case first =>
                      clear HCP HM HDy hE HCY4
                      go_region
                      have hMv : (10 * (48 + (a : Int) - 48) + (48 + (b : Int) - 48)) = ((10 * a + b : Nat) : Int) := by omega
                      have hDv : (10 * (48 + (c : Int) - 48) + (48 + (d : Int) - 48)) = ((10 * c + d : Nat) : Int) := by omega
                      rw [hMv, hDv]
                      obtain ⟨t5, l5, b5⟩ := tri_new w4 z ((10 * a + b : Nat) : Int) ((10 * c + d : Nat) : Int) 23 _ rfl
                      go_wp2_with fail
                      go_meet
                      exact ⟨rfl, t5, l5, b5.drew⟩
                    case rest =>
                     obtain ⟨rfl, T5, L5, B5⟩ := hcut
                     clear ea' eb' ec' ed' u1 u2 u3 u4 v1 v2 v3 v4 y1 y2 y4 y5 x1 x2 x4 x5 p1 p2 p4 p5 r1 r2 r4 r5
                     have hBC5 : BkC wc w.heap.size 0 0 0 := hBC4.below hlt4 B5
                     have hwb5 := hwb4.trans (B5.mono (Nat.le_of_lt hlt4))
                     clear k0 k1' k2 f0 f1 f2 hBC4 B5
                     generalize hMg : ((10 * a + b : Nat) : Int) = M at *
                     generalize hDg : ((10 * c + d : Nat) : Int) = D at *
                     have HMg := Lib.hid hMg
                     have HDg := Lib.hid hDg
                     clear hMg hDg
                     obtain ⟨t0, t1, t2⟩ := id T5
                     go_wp2_with fail
                     refine (cchkR_any _ _ _ _).mono ?_
                     rintro e w6 ⟨rfl, hb6⟩
                     have hBC6 := hBC5.below (by omega) hb6
                     have T6 := T5.below L5 hb6
                     have hwb6 := bthen' hwb5 hb6
                     obtain ⟨k0, k1', k2⟩ := hBC6.three
                     have f0 := hBC6.frozen 0
                     have f1 := hBC6.frozen 1
                     have f2 := hBC6.frozen 2
                     obtain ⟨s0, s1, s2⟩ := id T6
                     clear t0 t1 t2 hb6 hBC5 T5 hwb5 hwb4
                     simp only []
                     by_cases hE0 : cE z M D = 0
                     · rw [hE0]
                       repeat (first | go_values | go_skip | go_guarded | go_step | go_upon | (simp only [Int.not_lt, Int.not_le] at *; go_simp) | (go_values <;> (try go_simp)) | (go_ite <;> go_prune <;> (try go_simp)))
                       refine bodyPost_ret (res_civ2 rfl rfl rfl (hBC6.store z M D).three) rfl ⟨?_, ((hwb6.setCell (Nat.le_refl _) _).setCell (Nat.le_refl _) _).setCell (Nat.le_refl _) _⟩
                       have e0 := HCP.out.trans hE0
                       unfold cpV
                       rw [if_pos e0, if_pos e0, if_pos e0, e0, HCY4.out, HM.out, HDy.out, HMg.out, HDg.out] <;> rfl
                     · have HE0 : Hid (cpE s.data.toList = cE z M D) := HCP
                       have HNE : Hid (cpE s.data.toList ≠ 0) := fun e => hE0 (HCP.out.symm.trans e)
                       clear HCP
                       generalize cE z M D = E at *
                       have hE0' : (E != 0) = true := by rw [bne_iff_ne]; exact hE0
                       repeat (first | go_values | go_skip | go_guarded | go_step | go_upon | (simp only [Int.not_lt, Int.not_le] at *; go_simp) | (go_values <;> (try go_simp)) | (go_ite <;> go_prune <;> (try go_simp)))
                       refine bodyPost_ret (res_civ2 rfl rfl rfl (hBC6.store 0 0 0).three) rfl ⟨?_, ((hwb6.setCell (Nat.le_refl _) _).setCell (Nat.le_refl _) _).setCell (Nat.le_refl _) _⟩
                       rw [cpV_no HNE.out, cpV_no HNE.out, cpV_no HNE.out, HE0.out] <;> rfl
                · have e1 : fitsB z = false := decide_eq_false hfit
                  have hy : yr z = false := by rw [yr_not]; omega
                  have E6 : Hid (cpE s.data.toList = 6) := by
                    show _ = _
                    unfold cpE
                    rw [if_pos hE.out, HCY4.out]
                    unfold cE mE
                    rw [hy]; simp

                  rw [e1]
                  clear hfit hy e1
                  generalize fitV z = zz at *
                  repeat (first | go_values | go_skip | go_guarded | go_step | go_upon | (simp only [Int.not_lt, Int.not_le] at *; go_simp) | (go_values <;> (try go_simp)) | (go_ite <;> go_prune <;> (try go_simp)))
                  refine bodyPost_ret (res_civ2 rfl rfl rfl (hBC4.store 0 0 0).three) rfl ⟨?_, ((hwb4.setCell (Nat.le_refl _) _).setCell (Nat.le_refl _) _).setCell (Nat.le_refl _) _⟩
                  rw [E6.out, cpV_no (by rw [E6.out]; omega), cpV_no (by rw [E6.out]; omega), cpV_no (by rw [E6.out]; omega)] <;> rfl
end Go.Proofs.YtiemlpmhhbmfiaaGreatDoor
