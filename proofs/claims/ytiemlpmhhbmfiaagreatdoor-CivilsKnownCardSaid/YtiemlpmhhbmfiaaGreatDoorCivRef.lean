/- The reference of civil days (circaref06): Weekday, Check, Day, Of. -/
import Derived.Test.YtiemlpmhhbmfiaaGreatDoorMonRef
import Derived.Deep.RegionHeld3
import Derived.Deep.QuietTactic
import Derived.BigQuiet
import Derived.Deep.CutRange
import Derived.Deep.DeepCutAuto
import Derived.Deep.CutBlock
namespace Go.Proofs.YtiemlpmhhbmfiaaGreatDoor
open Go.RowKit

def wdI (d : Int) : Int := (d + 5) % 7
/-- The error of a civil day; its day. -/
def cE (y m d : Int) : Int := if mE y m = 0 then (if 1 ≤ d ∧ d ≤ mlen y m then 0 else 8) else mE y m
def cday (y m d : Int) : Int := mst y (m - 1).toNat + (d - 1)
theorem cE_zero {y m d : Int} : cE y m d = 0 ↔ mE y m = 0 ∧ 1 ≤ d ∧ d ≤ mlen y m := by
  unfold cE
  by_cases h : mE y m = 0
  · by_cases h2 : 1 ≤ d ∧ d ≤ mlen y m <;> simp [h, h2]
  · simp [h]

set_option maxHeartbeats 800000 in
set_option maxRecDepth 100000 in
theorem wdR_any (d : Int) (w : World) :
    Calls Tryz.prog 21 #[.int .i64 d] w fun e w' => e = .returned (.int .i64 (wdI d)) ∧ w = w' := by
  obtain ⟨t1, -, -, t4, t5⟩ := tdm d 7 (by omega)
  obtain ⟨q, hq⟩ : ∃ q, d.tdiv 7 = q := ⟨_, rfl⟩
  obtain ⟨r, hr⟩ : ∃ r, d.tmod 7 = r := ⟨_, rfl⟩
  rw [hq, hr] at t1
  rw [hr] at t4 t5
  have HW : Hid (wdI d = (r + 5) % 7) := by show _ = _; unfold wdI; omega
  rw [HW.out]
  clear t1 hq
  go_enter Tryz.func21, Tryz.ntmps21
  go_wp2
  go_loop [3, 4] (fun lv wv => ∃ l x : Int, -7 < l ∧ l < 7 ∧ 0 ≤ x ∧ x < 7 ∧ lv = .int .i64 l ∧ wv = .int .i64 x ∧ Hid ((l + x) % 7 = (r + 5) % 7)) (fun lv _ => (intOf lv).toNat)
  case atStart => exact ⟨r, 5, t4, t5, by omega, by omega, rfl, rfl, rfl⟩
  case round =>
    obtain ⟨l, x, l0, l1, x0, x1, rfl, rfl, hI⟩ := hrel
    clear t4 t5 hr
    have hb := hI.out
    by_cases hl : 0 < l
    · by_cases hx : x = 6
      · subst hx
        have HN : Hid ((l - 1 + 0) % 7 = (r + 5) % 7) := by show _ = _; omega
        clear hb hI
        go_wp2
        go_round
        case rel => exact ⟨l - 1, 0, by omega, by omega, by omega, by omega, rfl, rfl, HN⟩
        case measure => simp [intOf]; omega
      · have g1 : (x + 1 == 7) = false := by rw [beq_eq_false_iff_ne]; omega
        have HN : Hid ((l - 1 + (x + 1)) % 7 = (r + 5) % 7) := by show _ = _; rw [← hb]; congr 1; omega
        have hx2 : x < 6 := by omega
        clear hb hI hx
        go_wp2
        go_round
        case rel => exact ⟨l - 1, x + 1, by omega, by omega, by omega, by omega, rfl, rfl, HN⟩
        case measure => simp [intOf]; omega
    · have hl2 : l ≤ 0 := by omega
      clear hb hl
      go_wp2
      go_loop [3, 4] (fun lv wv => ∃ l x : Int, -7 < l ∧ l ≤ 0 ∧ 0 ≤ x ∧ x < 7 ∧ lv = .int .i64 l ∧ wv = .int .i64 x ∧ Hid ((l + x) % 7 = (r + 5) % 7)) (fun lv _ => (-(intOf lv)).toNat)
      case atStart => exact ⟨l, x, l0, hl2, x0, x1, rfl, rfl, hI⟩
      case round =>
        clear l0 l1 x0 x1 hI hl2
        obtain ⟨l, x, l0, l1, x0, x1, rfl, rfl, hI⟩ := hrel
        have hb := hI.out
        by_cases hl : l < 0
        · by_cases hx : x = 0
          · subst hx
            have HN : Hid ((l + 1 + 6) % 7 = (r + 5) % 7) := by show _ = _; omega
            clear hb hI
            go_wp2
            go_round
            case rel => exact ⟨l + 1, 6, by omega, by omega, by omega, by omega, rfl, rfl, HN⟩
            case measure => simp [intOf]; omega
          · have g1 : ¬ x - 1 < 0 := by omega
            have HN : Hid ((l + 1 + (x - 1)) % 7 = (r + 5) % 7) := by show _ = _; rw [← hb]; congr 1; omega
            have hx2 : 0 < x := by omega
            clear hb hI hx
            go_wp2
            go_round
            case rel => exact ⟨l + 1, x - 1, by omega, by omega, by omega, by omega, rfl, rfl, HN⟩
            case measure => simp [intOf]; omega
        · have hl0 : l = 0 := by omega
          have HN : Hid (x = (r + 5) % 7) := by show _ = _; omega
          have hl3 : ¬ l < 0 := hl
          clear hb hI hl0
          go_wp2
          go_ret
          exact ⟨ret_i HN.out, rfl⟩

/-- Three numbers in a block of the law's. -/
def Three (g : Nat) (a b c : Int) (X : World) : Prop := X.cell? ⟨g, 0, none⟩ = some (.int .i64 a) ∧ X.cell? ⟨g, 1, none⟩ = some (.int .i64 b) ∧ X.cell? ⟨g, 2, none⟩ = some (.int .i64 c)
theorem tri_new (w : World) (a b c : Int) (t : TypeId) (W : World) (hW : W = w.alloc (.cells #[.int .i64 a, .int .i64 b, .int .i64 c] t)) :
    Three w.heap.size a b c W ∧ w.heap.size < W.heap.size ∧ Below w.heap.size w W := by
  subst hW
  refine ⟨⟨?_, ?_, ?_⟩, by simp, by go_grown⟩
  · rw [cell_of_row _ _ 0 _ _ (0, 0) (heap_alloc_new w _)]; rfl
  · rw [cell_of_row _ _ 1 _ _ (0, 0) (heap_alloc_new w _)]; rfl
  · rw [cell_of_row _ _ 2 _ _ (0, 0) (heap_alloc_new w _)]; rfl
theorem Three.below {g : Nat} {a b c : Int} {X Y : World} (h : Three g a b c X) (hg : g < X.heap.size) (hb : Below X.heap.size X Y) : Three g a b c Y :=
  ⟨(hb.cell (p := ⟨g, 0, none⟩) hg).trans h.1, (hb.cell (p := ⟨g, 1, none⟩) hg).trans h.2.1, (hb.cell (p := ⟨g, 2, none⟩) hg).trans h.2.2⟩

set_option maxHeartbeats 800000 in
set_option maxRecDepth 100000 in
theorem cchkR_any (y m d : Int) (w : World) :
    Calls Tryz.prog 10 #[.agg #[.int .i64 y, .int .i64 m, .int .i64 d]] w fun e w' => e = .returned (.int .i64 (cE y m d)) ∧ Below w.heap.size w w' := by
  have RC : Hid (∀ X, Calls Tryz.prog 34 #[.int .i64 y, .int .i64 m] X fun x w' => x = .returned (.int .i64 (mE y m)) ∧ X = w') := fun X => mchkR_any y m X
  have RL : Hid (∀ X, Calls Tryz.prog 35 #[.int .i64 y, .int .i64 m] X fun x w' => x = .returned (.int .i64 (mlen y m)) ∧ X = w') := fun X => mlenR_any y m X
  have hc : (¬ mE y m = 0 ∧ cE y m d = mE y m) ∨ (mE y m = 0 ∧ d < 1 ∧ cE y m d = 8) ∨ (mE y m = 0 ∧ ¬ d < 1 ∧ mlen y m < d ∧ cE y m d = 8) ∨ (mE y m = 0 ∧ ¬ d < 1 ∧ ¬ mlen y m < d ∧ cE y m d = 0) := by
    unfold cE
    by_cases h : mE y m = 0
    · right
      by_cases h1 : d < 1
      · left; exact ⟨h, h1, by rw [if_pos h, if_neg (by omega)]⟩
      · right
        by_cases h2 : mlen y m < d
        · left; exact ⟨h, h1, h2, by rw [if_pos h, if_neg (by omega)]⟩
        · right; exact ⟨h, h1, h2, by rw [if_pos h, if_pos (by omega)]⟩
    · left; exact ⟨h, if_neg h⟩
  go_enter Tryz.func10, Tryz.ntmps10
  go_upto_region 1 with fail
  obtain ⟨⟨f0, f1, f2⟩, hlt, hb⟩ := tri_new w y m d 23 _ rfl
  generalize (w.alloc (Obj.cells #[Value.int IntKind.i64 y, Value.int IntKind.i64 m, Value.int IntKind.i64 d] 23)) = W1 at *
  generalize hg : w.heap.size = g at *
  rcases hc with ⟨h, e⟩ | ⟨h, h1, e⟩ | ⟨h, h1, h2, e⟩ | ⟨h, h1, h2, e⟩
  · have HE := Lib.hid e
    have g1 : (mE y m != 0) = true := by rw [bne_iff_ne]; exact h
    clear e h
    generalize mE y m = E at *
    go_wp2_with (go_at_call 34; refine (RC.out _).mono ?_; rintro e w' ⟨rfl, rfl⟩)
    go_ret
    exact ⟨ret_i HE.out.symm, by rw [hg]; exact hb⟩
  all_goals
    have HE := Lib.hid e
    rw [h] at RC
    clear e h
    generalize mlen y m = L at *
    first
      | have hd : decide (d < 1) = true := by simpa using h1
      | have hd : decide (d < 1) = false := by simpa using h1
    try first
      | have hd2 : decide (L < d) = true := by simpa using h2
      | have hd2 : decide (L < d) = false := by simpa using h2
    go_upto_region 4 with (go_at_call 34; refine (RC.out _).mono ?_; rintro e w' ⟨rfl, rfl⟩)
    go_quiet (first | (go_at_call 35; exact Calls.quiet_of_same ((RL.out _).mono fun _ _ ⟨p, q⟩ => ⟨p, q.symm⟩)))
    all_goals
      go_wp2_with fail
      go_ret
      exact ⟨ret_i HE.out.symm, by rw [hg]; first | exact below_drewN hb _ | exact below_drewN hb 1 | go_grown⟩

set_option maxHeartbeats 800000 in
set_option maxRecDepth 100000 in
theorem cdayR_any (y m d : Int) (w : World) (hy : -10000000000000000 ≤ y ∧ y ≤ 10000000000000000) (hm : 1 ≤ m ∧ m ≤ 12) (hd : 1 ≤ d ∧ d ≤ 31) :
    Calls Tryz.prog 15 #[.agg #[.int .i64 y, .int .i64 m, .int .i64 d]] w fun e w' => e = .returned (.int .i64 (cday y m d)) ∧ Below w.heap.size w w' := by
  obtain ⟨N, hN⟩ : ∃ N : Nat, m = (N : Int) + 1 := ⟨(m - 1).toNat, by omega⟩
  have RS : Hid (∀ X, Calls Tryz.prog 39 #[.int .i64 y, .int .i64 m] X fun x w' => x = .returned (.int .i64 (mst y N)) ∧ X = w') := fun X => by rw [hN]; exact mstR_any y N X (by omega) (by omega) (by omega)
  obtain ⟨b1, b2⟩ := mst_bd y N (by omega) ⟨by omega, by omega⟩
  have HE : Hid (cday y m d = mst y N + (d - 1)) := by show _ = _; unfold cday; rw [hN, show ((N : Int) + 1 - 1).toNat = N by omega]
  obtain ⟨d0, d1⟩ := hd
  clear hy hm hN
  go_enter Tryz.func15, Tryz.ntmps15
  go_upto_region 1 with fail
  obtain ⟨⟨f0, f1, f2⟩, hlt, hb⟩ := tri_new w y m d 23 _ rfl
  generalize (w.alloc (Obj.cells #[Value.int IntKind.i64 y, Value.int IntKind.i64 m, Value.int IntKind.i64 d] 23)) = W1 at *
  generalize hg : w.heap.size = g at *
  generalize mst y N = S at *
  go_quiet (first | (go_at_call 39; exact Calls.quiet_of_same ((RS.out _).mono fun _ _ ⟨p, q⟩ => ⟨p, q.symm⟩)))
  all_goals
    go_wp2_with fail
    go_ret
    exact ⟨ret_i HE.out.symm, by rw [hg]; first | exact below_drewN hb _ | exact below_drewN hb 1 | go_grown⟩

theorem res_civil {fn : Func} {t : Tmp} {tmps : Array Value} {W : World} {g : Nat} {a b c : Int} (h : fn.results = #[.cell t 23]) (ha : tmps[t]?.getD undef = .pointer (some ⟨g, 0, none⟩)) (hb : Three g a b c W) :
    (results fn tmps).run Tryz.prog W = .ok (.agg #[.int .i64 a, .int .i64 b, .int .i64 c]) W := by
  obtain ⟨q0, q1, q2⟩ := hb
  simp [results, h, go_sem, ha, q0, q1, q2]

set_option maxHeartbeats 800000 in
set_option maxRecDepth 100000 in
theorem cofR_any (d : Int) (w : World) (h0 : -9223372036854775808 ≤ d) (h1 : d ≤ 9223372036854775807) (hy : yr (yrOf d) = true) :
    Calls Tryz.prog 24 #[.int .i64 d] w fun e w' => e = .returned (.agg #[.int .i64 (yrOf d), .int .i64 (moOf d : Nat), .int .i64 (d - mst (yrOf d) (moOf d - 1) + 1)]) ∧ Below w.heap.size w w' := by
  obtain ⟨r0, r1⟩ := (yr_iff _).1 hy
  obtain ⟨s0, s1, s2, s3⟩ := moOf_spec d
  have RO : Hid (∀ X, Calls Tryz.prog 43 #[.int .i64 d] X fun x w' => x = .returned (.tuple #[.int .i64 (yrOf d), .int .i64 (moOf d : Nat)]) ∧ X = w') := fun X => mofR_any d X h0 h1 hy
  have RS : Hid (∀ X, Calls Tryz.prog 39 #[.int .i64 (yrOf d), .int .i64 (moOf d : Nat)] X fun x w' => x = .returned (.int .i64 (mst (yrOf d) (moOf d - 1))) ∧ X = w') := fun X => by
    have := mstR_any (yrOf d) (moOf d - 1) X (by omega) (by omega) (by omega)
    rw [show (((moOf d - 1 : Nat) : Int) + 1) = (moOf d : Nat) by omega] at this
    exact this
  have hs : mst (yrOf d) (moOf d) = mst (yrOf d) (moOf d - 1) + mlen (yrOf d) (moOf d : Nat) := by
    conv => lhs; rw [show moOf d = (moOf d - 1) + 1 by omega]
    simp only [mst]
    rw [show (((moOf d - 1 : Nat) : Int) + 1) = (moOf d : Nat) by omega]
  have hl := mlen_bd (yrOf d) (moOf d : Nat)
  have b0 : 0 ≤ d - mst (yrOf d) (moOf d - 1) := by omega
  have b1 : d - mst (yrOf d) (moOf d - 1) ≤ 31 := by omega
  clear hs hl s2 s3 hy
  generalize mst (yrOf d) (moOf d - 1) = S at *
  generalize moOf d = M at *
  generalize yrOf d = Y at *
  go_enter Tryz.func24, Tryz.ntmps24
  go_wp2_with (first
    | (go_at_call 43; refine (RO.out _).mono ?_; rintro e w' ⟨rfl, rfl⟩)
    | (go_at_call 39; refine (RS.out _).mono ?_; rintro e w' ⟨rfl, rfl⟩))
  obtain ⟨t0, -, t2⟩ := tri_new w Y M (d - S + 1) 23 _ rfl
  exact bodyPost_ret (res_civil (g := w.heap.size) rfl rfl t0) rfl ⟨rfl, t2⟩

/-- Numbers compared one after another. -/
def cm1 (a b r : Int) : Int := if a < b then -1 else if b < a then 1 else r
def cm3 (a b c x y z : Int) : Int := cm1 a x (cm1 b y (cm1 c z 0))
def sel (a b c : Int) (i : Nat) : Int := if i = 0 then a else if i = 1 then b else c
theorem Three.at {g : Nat} {a b c : Int} {X : World} (h : Three g a b c X) (i : Nat) (hi : i < 3) : X.cell? ⟨g, i, none⟩ = some (.int .i64 (sel a b c i)) := by
  match i, hi with
  | 0, _ => exact h.1
  | 1, _ => exact h.2.1
  | 2, _ => exact h.2.2
/-- What is left to be compared from the place i on. -/
def cmF (a b c x y z : Int) (i : Nat) : Int := if i = 0 then cm3 a b c x y z else if i = 1 then cm1 b y (cm1 c z 0) else if i = 2 then cm1 c z 0 else 0
theorem cmF_step (a b c x y z : Int) (i : Nat) (hi : i < 3) : cmF a b c x y z i = cm1 (sel a b c i) (sel x y z i) (cmF a b c x y z (i + 1)) := by
  match i, hi with
  | 0, _ => rfl
  | 1, _ => rfl
  | 2, _ => rfl

theorem three_at (W : World) (k : Nat) (hk : W.heap.size = k) (a b c : Int) (t : TypeId) :
    Three k a b c (W.alloc (.cells #[.int .i64 a, .int .i64 b, .int .i64 c] t)) ∧ (W.alloc (.cells #[.int .i64 a, .int .i64 b, .int .i64 c] t)).heap.size = k + 1 ∧ Below k W (W.alloc (.cells #[.int .i64 a, .int .i64 b, .int .i64 c] t)) := by
  subst hk
  exact ⟨(tri_new W a b c t _ rfl).1, by simp, (tri_new W a b c t _ rfl).2.2⟩
theorem Three.keep {g k : Nat} {a b c : Int} {X Y : World} (h : Three g a b c X) (hg : g < k) (hb : Below k X Y) : Three g a b c Y :=
  ⟨(hb.cell (p := ⟨g, 0, none⟩) hg).trans h.1, (hb.cell (p := ⟨g, 1, none⟩) hg).trans h.2.1, (hb.cell (p := ⟨g, 2, none⟩) hg).trans h.2.2⟩

set_option maxRecDepth 100000 in
set_option maxHeartbeats 1600000 in
theorem ccmpR_any (a b c x y z : Int) (w : World) :
    Calls Tryz.prog 26 #[.agg #[.int .i64 a, .int .i64 b, .int .i64 c], .agg #[.int .i64 x, .int .i64 y, .int .i64 z]] w fun e w' => e = .returned (.int .i64 (cm3 a b c x y z)) ∧ Below w.heap.size w w' := by
  have HZ : Hid (cm3 a b c x y z = cmF a b c x y z 0) := rfl
  go_enter Tryz.func26, Tryz.ntmps26
  go_upto_region 1 with fail
  obtain ⟨p1, z1, b1⟩ := three_at w _ rfl a b c 23
  generalize (w.alloc (Obj.cells #[Value.int IntKind.i64 a, Value.int IntKind.i64 b, Value.int IntKind.i64 c] 23)) = W1 at *
  obtain ⟨p2, z2, b2⟩ := three_at W1 _ z1 x y z 23
  generalize (W1.alloc (Obj.cells #[Value.int IntKind.i64 x, Value.int IntKind.i64 y, Value.int IntKind.i64 z] 23)) = W2 at *
  have q1 := p1.keep (by omega) b2
  obtain ⟨f0, f1, f2⟩ := id q1
  go_upto_region 2 with fail
  obtain ⟨p3, z3, b3⟩ := three_at W2 _ z2 a b c 2
  generalize (W2.alloc (Obj.cells #[Value.int IntKind.i64 a, Value.int IntKind.i64 b, Value.int IntKind.i64 c] 2)) = W3 at *
  have q2 := p2.keep (by omega) b3
  clear f0 f1 f2 q1 p1
  obtain ⟨f0, f1, f2⟩ := id q2
  go_wp2_with fail
  obtain ⟨p4, z4, b4⟩ := three_at W3 _ z3 x y z 2
  generalize (W3.alloc (Obj.cells #[Value.int IntKind.i64 x, Value.int IntKind.i64 y, Value.int IntKind.i64 z] 2)) = W4 at *
  have q3 := p3.keep (by omega) b4
  have hb : Below w.heap.size w W4 := b1.trans ((b2.mono (by omega)).trans ((b3.mono (by omega)).trans (b4.mono (by omega))))
  clear f0 f1 f2 q2 p2 p3 b1 b2 b3 b4 z1 z2 z3 z4
  generalize w.heap.size + 1 + 1 + 1 = gb at *
  generalize w.heap.size + 1 + 1 = ga at *
  go_loopw [7] (fun iv wr => ∃ (i n : Nat), i ≤ 3 ∧ iv = .int .i64 i ∧ wr = W4.drewN n ∧ Hid (cm3 a b c x y z = cmF a b c x y z i)) (fun iv _ => 3 - (intOf iv).toNat)
  case atStart => exact ⟨0, 0, by omega, rfl, rfl, HZ⟩
  case round =>
    obtain ⟨i, n, hi, rfl, rfl, hI⟩ := hrel
    have hbn := below_drewN hb n
    by_cases hi3 : i = 3
    · subst hi3
      have hi1 : ¬ ((3 : Nat) : Int) < 3 := by omega
      have HR : Hid (cm3 a b c x y z = 0) := by show _ = _; rw [hI.out]; rfl
      clear hI
      go_wp2_with fail
      go_ret
      exact ⟨ret_i HR.out.symm, hbn⟩
    · have hi2 : i < 3 := by omega
      have hi1 : (i : Int) < 3 := by omega
      have hi0 : (0 : Int) ≤ (i : Int) := by omega
      have f0 := q3.at i hi2
      have f1 := p4.at i hi2
      have hst := cmF_step a b c x y z i hi2
      rw [← hI.out] at hst
      have HST := Lib.hid hst
      clear hst hI
      generalize sel a b c i = u at *
      generalize sel x y z i = v at *
      by_cases h1 : u < v
      · have HR : Hid (cm3 a b c x y z = -1) := by show _ = _; rw [HST.out]; unfold cm1; rw [if_pos h1]
        go_upto_region 6 with fail
        go_quiet (fail)
        go_wp2_with fail
        go_ret
        exact ⟨ret_i HR.out.symm, by first | exact below_drewN hb _ | exact below_drewN hbn _ | exact below_drewN (below_drewN hbn _) _⟩
      · by_cases h2 : v < u
        · have HR : Hid (cm3 a b c x y z = 1) := by show _ = _; rw [HST.out]; unfold cm1; rw [if_neg h1, if_pos h2]
          go_upto_region 6 with fail
          go_quiet (fail)
          go_upto_region 8 with fail
          go_quiet (fail)
          go_wp2_with fail
          go_ret
          exact ⟨ret_i HR.out.symm, by first | exact below_drewN hb _ | exact below_drewN hbn _ | exact below_drewN (below_drewN hbn _) _⟩
        · have HR : Hid (cm3 a b c x y z = cmF a b c x y z (i + 1)) := by show _ = _; rw [HST.out]; conv => lhs; unfold cm1; rw [if_neg h1, if_neg h2]
          go_upto_region 6 with fail
          go_quiet (fail)
          go_upto_region 8 with fail
          go_quiet (fail)
          go_wp2_with fail
          go_roundw
          case rel => exact ⟨i + 1, _, by omega, by first | rfl | go_num, rfl, HR⟩
          case measure => simp [intOf]; omega
end Go.Proofs.YtiemlpmhhbmfiaaGreatDoor
