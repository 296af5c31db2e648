/- The law on two runs: RunsPairs. -/
import Derived.Test.YtmbaohjekeiphaaGreatDoorRunK
import Derived.Test.YtmbaohjekeiphaaGreatDoorRunPz
import Derived.Test.YtmbaohjekeiphaaGreatDoorRunPn
namespace Go.Proofs.YtmbaohjekeiphaaGreatDoor.run9
open Go.RowKit

theorem pairs_law (a b : Ru) (n : Int) (w W : World) (KL : Hid (∀ B X, Ok B X → Calls Tryz.prog 23 #[] X fun x w' => x = .returned (.bool true) ∧ Ok B w'))
    (ha : a.In) (hb : b.In) (hn : I64 n) (ho : Ok w W) :
    Calls Tryz.prog 3 #[V4 a, V4 b, .int .i64 n] W fun e w' => e = .returned (.bool true) ∧ Ok w w' := by
  have hC := ruC_small a b
  have hcw : IntKind.i64.wrap (-ruC a b) = -ruC a b := IntWalk.i64_in _ (by omega)
  have hE1 := ruE_small a
  have hE2 := ruE_small b
  by_cases hok : ruE a = 0 ∧ ruE b = 0
  · obtain ⟨h1, h2⟩ := hok
    have hU := okU_true h1 h2
    have htB : toB a b = ruTo a b := by unfold toB; rw [hU, Bool.true_and]
    have hmB : coB a b = ruOv a b := by unfold coB; rw [hU, Bool.true_and]
    have hwB : wiB a b = ruW a b := by unfold wiB; rw [hU, Bool.true_and]
    have hA : haB a n = ruH a n := by unfold haB; rw [h1]; rfl
    have hB : haB b n = ruH b n := by unfold haB; rw [h2]; rfl
    have hNo := com_none h1 h2 (n := n)
    have hj : ruTo a b = true → joR a b = ruJ a b := fun ht => if_pos (htB.trans ht)
    have hk : ruOv a b = true → coR a b = ruK a b := fun hm => if_pos (hmB.trans hm)
    have hj0 : ruTo a b = false → joR a b = ru0 := fun ht => if_neg (by rw [htB, ht]; decide)
    have hk0 : ruOv a b = false → coR a b = ru0 := fun hm => if_neg (by rw [hmB, hm]; decide)
    have hF1 : ∀ B X, Ok B X → Calls Tryz.prog 16 #[V4 (joR a b), .bool (ruTo a b), V4 (ruJ a b), .bool (ruTo a b)] X fun x w' => x = .returned (.bool true) ∧ Ok B w' := fun B X hX => by
      cases ht : ruTo a b
      · rw [hj0 ht]; exact f_no hX (ruJ a b)
      · rw [hj ht]; exact f_ok hX (ruJ a b)
    have hF2 : ∀ B X, Ok B X → Calls Tryz.prog 16 #[V4 (coR a b), .bool (ruOv a b), V4 (ruK a b), .bool (ruOv a b)] X fun x w' => x = .returned (.bool true) ∧ Ok B w' := fun B X hX => by
      cases hm : ruOv a b
      · rw [hk0 hm]; exact f_no hX (ruK a b)
      · rw [hk hm]; exact f_ok hX (ruK a b)
    have hP : ruTo a b = true → haB (joR a b) n = (ruH a n || ruH b n) := fun ht => by rw [hj ht]; unfold haB; rw [joi_right h1 h2 ht, joi_has h1 h2 ht]; rfl
    have hQ : ruOv a b = true → haB (coR a b) n = (ruH a n && ruH b n) := fun hm => by rw [hk hm]; unfold haB; rw [com_right h1 h2 hm, com_has h1 h2]; rfl
    have hPi : ruTo a b = true → (joR a b).In := fun ht => by rw [hj ht]; exact joi_in ha hb
    have hQi : ruOv a b = true → (coR a b).In := fun hm => by rw [hk hm]; exact com_in ha hb
    exact pairs_ok a.i a.d a.j a.e b.i b.d b.j b.e n (ruC a b) _ _ _ _ _ _ _ _ _ _ _ _ _ _ _ _ (ruTo a b) (ruOv a b) (ruH a n) (ruH b n) (ruW a b) w W KL (fun B X hX => r_check hX a h1) (fun B X hX => r_check hX b h2) (fun B X hX => k_check hX a ha h1) (fun B X hX => k_check hX b hb h2)
      (fun B X hX => k_cmp hX a b ha hb rfl) (fun B X hX => r_cmp hX a b rfl) (fun B X hX => k_cmp hX b a hb ha (ruC_anti a b)) (fun B X hX => r_touch hX a b ha hb rfl) (fun B X hX => r_over hX a b rfl)
      (fun B X hX => k_join hX a b ha hb rfl htB) (fun B X hX => k_join hX b a hb ha (joR_comm b a) ((toB_comm b a).trans htB)) (fun B X hX => k_common hX a b ha hb rfl hmB) (fun B X hX => k_common hX b a hb ha (coR_comm b a) ((coB_comm b a).trans hmB))
      (fun B X hX => k_touch hX a b ha hb htB) (fun B X hX => k_touch hX b a hb ha ((toB_comm b a).trans htB)) (fun B X hX => r_join hX a b rfl) (fun B X hX => r_common hX a b rfl) hF1 hF2
      (fun B X hX => k_within hX a b ha hb hwB) (fun B X hX => r_within hX a b rfl) (fun B X hX => k_has hX a n ha hn hA) (fun B X hX => r_has hX a n rfl) (fun B X hX => k_has hX b n hb hn hB)
      (fun ht B X hX => k_has hX (joR a b) n (hPi ht) hn (hP ht)) (fun hm B X hX => k_has hX (coR a b) n (hQi hm) hn (hQ hm))
      (fun ht => by
        cases hm : ruOv a b
        · rfl
        · rw [ov_to hm] at ht; cases ht)
      (fun hm hx => by have := hNo hm; rw [hx, Bool.true_and] at this; exact this) hcw ho
  · have hU := okU_false hok
    have htB : toB a b = false := by unfold toB; rw [hU, Bool.false_and]
    have hmB : coB a b = false := by unfold coB; rw [hU, Bool.false_and]
    have hwB : wiB a b = false := by unfold wiB; rw [hU, Bool.false_and]
    have hj : joR a b = ru0 := if_neg (by rw [htB]; decide)
    have hk : coR a b = ru0 := if_neg (by rw [hmB]; decide)
    by_cases h1 : ruE a = 0
    · have h2 : ¬ ruE b = 0 := fun q => hok ⟨h1, q⟩
      have hA : haB a n = ruH a n := by unfold haB; rw [h1]; rfl
      exact pairs_n1 a.i a.d a.j a.e b.i b.d b.j b.e n (ruC a b) (ruE b) _ _ _ _ _ _ _ _ (ruH a n) w W KL (fun B X hX => r_check hX a h1) (fun B X hX => r_check hX b rfl) (fun B X hX => k_check hX a ha h1) (fun B X hX => k_check hX b hb rfl)
        (fun B X hX => k_cmp hX a b ha hb rfl) (fun B X hX => r_cmp hX a b rfl) (fun B X hX => k_cmp hX b a hb ha (ruC_anti a b))
        (fun B X hX => k_join hX a b ha hb hj htB) (fun B X hX => k_join hX b a hb ha ((joR_comm b a).trans hj) ((toB_comm b a).trans htB)) (fun B X hX => k_common hX a b ha hb hk hmB) (fun B X hX => k_common hX b a hb ha ((coR_comm b a).trans hk) ((coB_comm b a).trans hmB))
        (fun B X hX => k_touch hX a b ha hb htB) (fun B X hX => k_touch hX b a hb ha ((toB_comm b a).trans htB)) (fun B X hX => r_join hX a b rfl) (fun B X hX => r_common hX a b rfl) (fun B X hX => f_no hX (ruJ a b)) (fun B X hX => f_no hX (ruK a b))
        (fun B X hX => k_within hX a b ha hb hwB) (fun B X hX => k_has hX a n ha hn hA) (fun B X hX => r_has hX a n rfl) (IntWalk.i64_in _ (by omega)) (beq_eq_false_iff_ne.2 h2) hcw ho
    · have hA : haB a n = false := by unfold haB; rw [beq_eq_false_iff_ne.2 h1]; rfl
      exact pairs_n2 a.i a.d a.j a.e b.i b.d b.j b.e n (ruC a b) (ruE a) (ruE b) _ _ _ _ _ _ _ _ w W KL (fun B X hX => r_check hX a rfl) (fun B X hX => r_check hX b rfl) (fun B X hX => k_check hX a ha rfl) (fun B X hX => k_check hX b hb rfl)
        (fun B X hX => k_cmp hX a b ha hb rfl) (fun B X hX => r_cmp hX a b rfl) (fun B X hX => k_cmp hX b a hb ha (ruC_anti a b))
        (fun B X hX => k_join hX a b ha hb hj htB) (fun B X hX => k_join hX b a hb ha ((joR_comm b a).trans hj) ((toB_comm b a).trans htB)) (fun B X hX => k_common hX a b ha hb hk hmB) (fun B X hX => k_common hX b a hb ha ((coR_comm b a).trans hk) ((coB_comm b a).trans hmB))
        (fun B X hX => k_touch hX a b ha hb htB) (fun B X hX => k_touch hX b a hb ha ((toB_comm b a).trans htB)) (fun B X hX => r_join hX a b rfl) (fun B X hX => r_common hX a b rfl) (fun B X hX => f_no hX (ruJ a b)) (fun B X hX => f_no hX (ruK a b))
        (fun B X hX => k_within hX a b ha hb hwB) (fun B X hX => k_has hX a n ha hn hA) (IntWalk.i64_in _ (by omega)) (beq_eq_false_iff_ne.2 h1) (beq_eq_false_iff_ne.2 (by omega)) hcw ho
end Go.Proofs.YtmbaohjekeiphaaGreatDoor.run9
