/- The law on one run: RunsOne. -/
import Derived.Test.YtmbaohjekeiphaaGreatDoorRunOl
import Derived.Test.YtmbaohjekeiphaaGreatDoorRunOg
namespace Go.Proofs.YtmbaohjekeiphaaGreatDoor.run9
open Go.RowKit

theorem one_law (i d j e k lo hi : Int) (w W : World) (KL : Hid (∀ B X, Ok B X → Calls Tryz.prog 23 #[] X fun x w' => x = .returned (.bool true) ∧ Ok B w'))
    (hr : Ru.In ⟨i, d, j, e⟩) (hk : I64 k) (hlo : I64 lo) (hhi : I64 hi) (ho : Ok w W) :
    Calls Tryz.prog 4 #[U4 i d j e, .int .i64 k, .agg #[.int .i64 lo, .int .i64 hi]] W fun e w' => e = .returned (.bool true) ∧ Ok w w' := by
  have KC : ∀ B X, Ok B X → Calls Tryz.prog 7 #[U4 i d j e] X fun x w' => x = .returned (.int .i64 (ruE ⟨i, d, j, e⟩)) ∧ Ok B w' := fun B X hX => c_eq hX rfl (chkU_any i d j e X)
  have KN : ∀ B X, Ok B X → Calls Tryz.prog 24 #[U4 i d j e] X fun x w' => x = .returned (.tuple #[.int .i64 (leV ⟨i, d, j, e⟩), .int .i64 (leE ⟨i, d, j, e⟩)]) ∧ Ok B w' := fun B X hX => c_eq hX rfl (run_len ⟨i, d, j, e⟩ X hX.1 hr)
  have KS : ∀ B X, Ok B X → Calls Tryz.prog 25 #[U4 i d j e, .int .i64 k] X fun x w' => x = .returned (.tuple #[V4 (shR ⟨i, d, j, e⟩ k), .int .i64 (shE ⟨i, d, j, e⟩ k)]) ∧ Ok B w' := fun B X hX => c_eq hX rfl (run_shift ⟨i, d, j, e⟩ k X hX.1 hr hk)
  have KO : ∀ B X, Ok B X → Calls Tryz.prog 26 #[.int .i64 lo, .int .i64 hi] X fun x w' => x = .returned (.tuple #[V4 (ofR lo hi), .int .i64 (ofE lo hi)]) ∧ Ok B w' := fun B X hX => c_eq hX rfl (run_of lo hi X hX.1 hlo hhi)
  have KD : ∀ B X, Ok B X → Calls Tryz.prog 28 #[.int .i64 lo, .int .i64 hi] X fun x w' => x = .returned (U4 0 lo 0 hi) ∧ Ok B w' := fun B X hX => c_eq hX rfl (days_any lo hi X)
  have KRN : ∀ B X, Ok B X → Calls Tryz.prog 29 #[U4 i d j e] X fun x w' => x = .returned (.tuple #[.int .i64 (ruL ⟨i, d, j, e⟩), .int .i64 (ruLE ⟨i, d, j, e⟩)]) ∧ Ok B w' := fun B X hX => c_eq hX rfl (lenU_any i d j e X hr.2.1 hr.2.2.2)
  have KRS : ∀ B X, Ok B X → Calls Tryz.prog 30 #[U4 i d j e, .int .i64 k] X fun x w' => x = .returned (.tuple #[V4 (ruS ⟨i, d, j, e⟩ k), .int .i64 (ruSE ⟨i, d, j, e⟩ k)]) ∧ Ok B w' := fun B X hX => c_eq hX rfl (shiU_any i d j e k X hr.2.1 hr.2.2.2 hk)
  have GO : ∀ a b c f : Int, ∀ B X, Ok B X → Calls Tryz.prog 27 #[U4 a b c f, .int .i64 0, U4 a b c f, .int .i64 0] X fun x w' => x = .returned (.bool true) ∧ Ok B w' := fun a b c f B X hX => c_eq hX rfl (gives_ok a b c f X)
  have GB : ∀ a b c f n : Int, ¬ n = 0 → ∀ B X, Ok B X → Calls Tryz.prog 27 #[U4 0 0 0 0, .int .i64 n, U4 a b c f, .int .i64 n] X fun x w' => x = .returned (.bool true) ∧ Ok B w' := fun a b c f n hn B X hX => c_eq hX rfl (gives_bad a b c f n X hn)
  by_cases hle : lo ≤ hi
  · rw [show ofR lo hi = ⟨0, lo, 0, hi⟩ from if_pos hle, show ofE lo hi = 0 from if_pos hle] at KO
    by_cases hE : ruE ⟨i, d, j, e⟩ = 0
    · rw [show leV ⟨i, d, j, e⟩ = ruL ⟨i, d, j, e⟩ from if_pos hE, show leE ⟨i, d, j, e⟩ = ruLE ⟨i, d, j, e⟩ from if_pos hE] at KN
      rw [show shR ⟨i, d, j, e⟩ k = ruS ⟨i, d, j, e⟩ k from if_pos hE, show shE ⟨i, d, j, e⟩ k = ruSE ⟨i, d, j, e⟩ k from if_pos hE] at KS
      rw [hE] at KC
      by_cases hp : ruSE ⟨i, d, j, e⟩ k = 0
      · have hsi := shift_in hr hp
        have hsb := shift_back hr hE hp
        rw [hp] at KS KRS
        generalize ruS ⟨i, d, j, e⟩ k = s at *
        obtain ⟨s0, s1, s2, s3⟩ := s
        by_cases hm : k = -9223372036854775808
        · subst hm
          exact one_le_min i d j e lo hi _ _ s0 s1 s2 s3 w W KL KO (GO 0 lo 0 hi) KD KC KN KS KRN KRS (GO s0 s1 s2 s3) hle ho
        · have hk2 : I64 (-k) := by obtain ⟨_, _⟩ := hk; constructor <;> omega
          exact one_le_back i d j e lo hi _ _ s0 s1 s2 s3 k w W KL KO (GO 0 lo 0 hi) KD KC KN KS KRN KRS (GO s0 s1 s2 s3) (fun B X hX => c_eq hX (by rw [hsb.1, hsb.2]) (run_shift ⟨s0, s1, s2, s3⟩ (-k) X hX.1 hsi hk2)) (GO i d j e)
            (beq_eq_false_iff_ne.2 hm) (IntWalk.i64_in _ hk2) hle ho
      · rw [show ruS ⟨i, d, j, e⟩ k = ⟨0, 0, 0, 0⟩ from if_neg hp] at KS KRS
        exact one_le_none i d j e lo hi _ _ _ 0 0 0 0 k w W KL KO (GO 0 lo 0 hi) KD KC KN KS KRN KRS (GB 0 0 0 0 _ hp) (by rw [bne_iff_ne]; exact hp) hle ho
    · rw [show leV ⟨i, d, j, e⟩ = 0 from if_neg hE, show leE ⟨i, d, j, e⟩ = ruE ⟨i, d, j, e⟩ from if_neg hE] at KN
      rw [show shR ⟨i, d, j, e⟩ k = ⟨0, 0, 0, 0⟩ from if_neg hE, show shE ⟨i, d, j, e⟩ k = ruE ⟨i, d, j, e⟩ from if_neg hE] at KS
      exact one_le_bad i d j e lo hi _ k w W KL KO (GO 0 lo 0 hi) KD KC KN KS (GB i d j e _ hE) hE hle ho
  · rw [show ofR lo hi = ⟨0, 0, 0, 0⟩ from if_neg hle, show ofE lo hi = 12 from if_neg hle] at KO
    have hgt : hi < lo := by omega
    have G12 := GB i d j e 12 (by decide)
    by_cases hE : ruE ⟨i, d, j, e⟩ = 0
    · rw [show leV ⟨i, d, j, e⟩ = ruL ⟨i, d, j, e⟩ from if_pos hE, show leE ⟨i, d, j, e⟩ = ruLE ⟨i, d, j, e⟩ from if_pos hE] at KN
      rw [show shR ⟨i, d, j, e⟩ k = ruS ⟨i, d, j, e⟩ k from if_pos hE, show shE ⟨i, d, j, e⟩ k = ruSE ⟨i, d, j, e⟩ k from if_pos hE] at KS
      rw [hE] at KC
      by_cases hp : ruSE ⟨i, d, j, e⟩ k = 0
      · have hsi := shift_in hr hp
        have hsb := shift_back hr hE hp
        rw [hp] at KS KRS
        generalize ruS ⟨i, d, j, e⟩ k = s at *
        obtain ⟨s0, s1, s2, s3⟩ := s
        by_cases hm : k = -9223372036854775808
        · subst hm
          exact one_gt_min i d j e lo hi _ _ s0 s1 s2 s3 w W KL KO G12 KC KN KS KRN KRS (GO s0 s1 s2 s3) hgt ho
        · have hk2 : I64 (-k) := by obtain ⟨_, _⟩ := hk; constructor <;> omega
          exact one_gt_back i d j e lo hi _ _ s0 s1 s2 s3 k w W KL KO G12 KC KN KS KRN KRS (GO s0 s1 s2 s3) (fun B X hX => c_eq hX (by rw [hsb.1, hsb.2]) (run_shift ⟨s0, s1, s2, s3⟩ (-k) X hX.1 hsi hk2)) (GO i d j e)
            (beq_eq_false_iff_ne.2 hm) (IntWalk.i64_in _ hk2) hgt ho
      · rw [show ruS ⟨i, d, j, e⟩ k = ⟨0, 0, 0, 0⟩ from if_neg hp] at KS KRS
        exact one_gt_none i d j e lo hi _ _ _ 0 0 0 0 k w W KL KO G12 KC KN KS KRN KRS (GB 0 0 0 0 _ hp) (by rw [bne_iff_ne]; exact hp) hgt ho
    · rw [show leV ⟨i, d, j, e⟩ = 0 from if_neg hE, show leE ⟨i, d, j, e⟩ = ruE ⟨i, d, j, e⟩ from if_neg hE] at KN
      rw [show shR ⟨i, d, j, e⟩ k = ⟨0, 0, 0, 0⟩ from if_neg hE, show shE ⟨i, d, j, e⟩ k = ruE ⟨i, d, j, e⟩ from if_neg hE] at KS
      exact one_gt_bad i d j e lo hi _ k w W KL KO G12 KC KN KS (GB i d j e _ hE) hE hgt ho
end Go.Proofs.YtmbaohjekeiphaaGreatDoor.run9
