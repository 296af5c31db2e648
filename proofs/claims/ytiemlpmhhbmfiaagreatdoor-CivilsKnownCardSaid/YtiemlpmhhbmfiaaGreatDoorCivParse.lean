/- The law on whatever text. -/
import Derived.Test.YtiemlpmhhbmfiaaGreatDoorCivLaws
import Derived.Test.YtiemlpmhhbmfiaaGreatDoorCivPd
namespace Go.Proofs.YtiemlpmhhbmfiaaGreatDoor.civ
open Go.RowKit

set_option maxHeartbeats 4000000 in
set_option maxRecDepth 100000 in
theorem parse_law (s : ByteArray) (w W : World) (_hs : s.size ≤ maxLen) (h : Ok w W) :
    Calls Tryz.prog 7 #[.string s] W fun e w' => e = .returned (.bool true) ∧ Ok w w' := by
  have hr := Ok.refl h.1
  by_cases h100 : 100 < s.size
  · have h1 : (100 : Int) < (s.size : Int) := by omega
    go_enter Tryz.func7, Tryz.ntmps7
    go_wp2_with (go_at_call 14; ((with_reducible refine (lives_t W _ (by assumption)).mono ?_); rintro e w' ⟨rfl, hk⟩))
    go_ret
    exact ⟨rfl, h.step hk.2⟩
  · have h1 : ¬ (100 : Int) < (s.size : Int) := by omega
    have KP : Hid (∀ X, Ok W X → Calls Tryz.prog 28 #[.string s] X fun x w' => x = .returned (.tuple #[C3 (cpV s.data.toList (cY s.data.toList)) (cpV s.data.toList (cM s.data.toList)) (cpV s.data.toList (cD s.data.toList)), .int .i64 (cpE s.data.toList)]) ∧ Ok W w') := fun X hX => c_parse hX s (by unfold pMax; omega) rfl rfl rfl rfl
    have KR : Hid (∀ B X, Ok B X → Calls Tryz.prog 30 #[.string s] X fun x w' => x = .returned (.tuple #[C3 (cpV s.data.toList (cY s.data.toList)) (cpV s.data.toList (cM s.data.toList)) (cpV s.data.toList (cD s.data.toList)), .int .i64 (cpE s.data.toList)]) ∧ Ok B w') := fun B X hX => c_below hX (cprsR_any s X (by omega))
    by_cases hE : cpE s.data.toList = 0
    · have hv : ∀ v, cpV s.data.toList v = v := fun v => if_pos hE
      have hF : cForm s.data.toList = true := by
        by_cases hf : cForm s.data.toList = true
        · exact hf
        · rw [cpE_no (by simpa using hf)] at hE; omega
      have hc : cE (cY s.data.toList) (cM s.data.toList) (cD s.data.toList) = 0 := by
        unfold cpE at hE; rwa [if_pos hF] at hE
      have hbk : civS (cY s.data.toList) (cM s.data.toList) (cD s.data.toList) = s := by
        unfold civS; rw [ctx_back hF]
      obtain ⟨q1, q2, q3, q4, q5, q6, q7, q8⟩ := civ_back hc
      have hyb := (yr_iff _).1 q4
      rw [hv, hv, hv, hE] at KP KR
      have KT : Hid (∀ B X, Ok B X → Calls Tryz.prog 27 #[C3 (cY s.data.toList) (cM s.data.toList) (cD s.data.toList)] X fun x w' => x = .returned (.tuple #[.string s, .int .i64 0]) ∧ Ok B w') := fun B X hX => c_text hX _ _ _ (by unfold I64; omega) (by unfold I64; omega) (by unfold I64; omega) (by unfold cTx; rw [if_pos hc, hbk]) hc
      clear hv hF hc hbk q1 q2 q3 q4 q5 q6 q7 q8 hyb hE
      generalize cY s.data.toList = Y at *
      generalize ((cM s.data.toList : Nat) : Int) = M at *
      generalize ((cD s.data.toList : Nat) : Int) = D at *
      have tT : (s.toList == s.toList) = true := by simp
      go_enter Tryz.func7, Tryz.ntmps7
      go_upto_region 4 with (go_at_call 28; ((with_reducible refine (KP.out _ (by assumption)).mono ?_); rintro e w' ⟨rfl, hk⟩))
      have hBg := BkC.new w' (Y) (M) (D)
      have hog := hk.step ((Below.refl _ _).alloc (Nat.le_refl _) (.cells #[.int .i64 (Y), .int .i64 (M), .int .i64 (D)] 23))
      have lg : w'.heap.size < (w'.alloc (.cells #[.int .i64 (Y), .int .i64 (M), .int .i64 (D)] 23)).heap.size := by simp
      have sg := hk.2.size
      generalize (w'.alloc (Obj.cells #[Value.int IntKind.i64 (Y), Value.int IntKind.i64 (M), Value.int IntKind.i64 (D)] 23)) = W1 at *
      generalize w'.heap.size = g at *
      have hrg := Ok.refl hog.1
      go_upto_region 5 with (go_at_call 30; ((with_reducible refine (KR.out W1 _ (by assumption)).mono ?_); rintro e w' ⟨rfl, hk⟩))
      have hBk := BkC.new w' (Y) (M) (D)
      have hok := hk.step ((Below.refl _ _).alloc (Nat.le_refl _) (.cells #[.int .i64 (Y), .int .i64 (M), .int .i64 (D)] 23))
      have lk : w'.heap.size < (w'.alloc (.cells #[.int .i64 (Y), .int .i64 (M), .int .i64 (D)] 23)).heap.size := by simp
      have sk := hk.2.size
      generalize (w'.alloc (Obj.cells #[Value.int IntKind.i64 (Y), Value.int IntKind.i64 (M), Value.int IntKind.i64 (D)] 23)) = W2 at *
      generalize w'.heap.size = k at *
      have hrk := Ok.refl hok.1
      have hBg2 := hBg.below lg hok.2
      have lg2 : g < W2.heap.size := Nat.lt_of_lt_of_le lg hok.2.size
      obtain ⟨g0, g1, g2⟩ := hBg2.three
      obtain ⟨g3, g4, g5⟩ := hBk.three
      go_wp2_with (first
      | (go_at_call 27; ((with_reducible refine (KT.out W2 _ (by assumption)).mono ?_); rintro e w' ⟨rfl, hk⟩))
      | (go_at_call 19; ((with_reducible refine (c_gok (w := W2) (by assumption) (by rfl) (by rfl) (by rfl)).mono ?_); rintro e w' ⟨rfl, hk⟩; have hX := hk.2; have k0 := (hk.2.cell (p := ⟨g, 0, none⟩) lg2).trans g0; have k1 := (hk.2.cell (p := ⟨g, 1, none⟩) lg2).trans g1; have k2 := (hk.2.cell (p := ⟨g, 2, none⟩) lg2).trans g2; have k3 := (hk.2.cell (p := ⟨k, 0, none⟩) lk).trans g3; have k4 := (hk.2.cell (p := ⟨k, 1, none⟩) lk).trans g4; have k5 := (hk.2.cell (p := ⟨k, 2, none⟩) lk).trans g5))
      | (go_at_call 14; ((with_reducible refine (lives_t W2 _ (by assumption)).mono ?_); rintro e w' ⟨rfl, hk⟩)))
      go_ret
      exact ⟨rfl, h.step (hog.2.trans ((hok.2.trans (hk.2.mono hok.2.size)).mono hog.2.size))⟩
    · have hv : ∀ v, cpV s.data.toList v = 0 := fun v => if_neg hE
      have tE : (cpE s.data.toList != 0) = true := by rw [bne_iff_ne]; exact hE
      rw [hv, hv, hv] at KP KR
      have HE := Lib.hid hE
      clear hv hE
      generalize cpE s.data.toList = E at *
      go_enter Tryz.func7, Tryz.ntmps7
      go_upto_region 4 with (go_at_call 28; ((with_reducible refine (KP.out _ (by assumption)).mono ?_); rintro e w' ⟨rfl, hk⟩))
      have hBg := BkC.new w' (0) (0) (0)
      have hog := hk.step ((Below.refl _ _).alloc (Nat.le_refl _) (.cells #[.int .i64 (0), .int .i64 (0), .int .i64 (0)] 23))
      have lg : w'.heap.size < (w'.alloc (.cells #[.int .i64 (0), .int .i64 (0), .int .i64 (0)] 23)).heap.size := by simp
      have sg := hk.2.size
      generalize (w'.alloc (Obj.cells #[Value.int IntKind.i64 (0), Value.int IntKind.i64 (0), Value.int IntKind.i64 (0)] 23)) = W1 at *
      generalize w'.heap.size = g at *
      have hrg := Ok.refl hog.1
      go_upto_region 5 with (go_at_call 30; ((with_reducible refine (KR.out W1 _ (by assumption)).mono ?_); rintro e w' ⟨rfl, hk⟩))
      have hBk := BkC.new w' (0) (0) (0)
      have hok := hk.step ((Below.refl _ _).alloc (Nat.le_refl _) (.cells #[.int .i64 (0), .int .i64 (0), .int .i64 (0)] 23))
      have lk : w'.heap.size < (w'.alloc (.cells #[.int .i64 (0), .int .i64 (0), .int .i64 (0)] 23)).heap.size := by simp
      have sk := hk.2.size
      generalize (w'.alloc (Obj.cells #[Value.int IntKind.i64 (0), Value.int IntKind.i64 (0), Value.int IntKind.i64 (0)] 23)) = W2 at *
      generalize w'.heap.size = k at *
      have hrk := Ok.refl hok.1
      have hBg2 := hBg.below lg hok.2
      have lg2 : g < W2.heap.size := Nat.lt_of_lt_of_le lg hok.2.size
      obtain ⟨g0, g1, g2⟩ := hBg2.three
      obtain ⟨g3, g4, g5⟩ := hBk.three
      go_wp2_with (first
      | (go_at_call 19; ((with_reducible refine (c_gbad (w := W2) (by assumption) HE.out (by rfl)).mono ?_); rintro e w' ⟨rfl, hk⟩; have hX := hk.2; have k0 := (hk.2.cell (p := ⟨g, 0, none⟩) lg2).trans g0; have k1 := (hk.2.cell (p := ⟨g, 1, none⟩) lg2).trans g1; have k2 := (hk.2.cell (p := ⟨g, 2, none⟩) lg2).trans g2; have k3 := (hk.2.cell (p := ⟨k, 0, none⟩) lk).trans g3; have k4 := (hk.2.cell (p := ⟨k, 1, none⟩) lk).trans g4; have k5 := (hk.2.cell (p := ⟨k, 2, none⟩) lk).trans g5))
      | (go_at_call 14; ((with_reducible refine (lives_t W2 _ (by assumption)).mono ?_); rintro e w' ⟨rfl, hk⟩)))
      go_ret
      exact ⟨rfl, h.step (hog.2.trans ((hok.2.trans (hk.2.mono hok.2.size)).mono hog.2.size))⟩
end Go.Proofs.YtiemlpmhhbmfiaaGreatDoor.civ
