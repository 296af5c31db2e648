/- The reference of civil days (circaref06): Parse, of whatever text of at most 100 bytes. -/
import Derived.Test.YtiemlpmhhbmfiaaGreatDoorCivPc
namespace Go.Proofs.YtiemlpmhhbmfiaaGreatDoor
open Go.RowKit

theorem cprsR_any (s : ByteArray) (w : World) (hs : s.size ≤ 100) :
    Calls Tryz.prog 30 #[.string s] w fun e w' => e = .returned (.tuple #[.agg #[.int .i64 (cpV s.data.toList (cY s.data.toList)), .int .i64 (cpV s.data.toList (cM s.data.toList)), .int .i64 (cpV s.data.toList (cD s.data.toList))], .int .i64 (cpE s.data.toList)]) ∧ Below w.heap.size w w' := by
  by_cases h10 : s.size < 10
  · have hf : cForm s.data.toList = false := by
      unfold cForm
      rw [decide_eq_false (by rw [← size_l]; omega)] <;> rfl
    have he := cpE_no hf
    have hne : cpE s.data.toList ≠ 0 := by rw [he]; omega
    rw [cpV_no hne, cpV_no hne, cpV_no hne, he]
    exact cprsR_short s w h10
  · have hn : s.size = (s.size - 6) + 6 := by omega
    generalize s.size - 6 = n at hn
    have hfm := form_at s n hn h10
    by_cases h3 : s[n + 3]'(by omega) = 45
    · by_cases h6 : s[n]'(by omega) = 45
      · by_cases h1 : digS (s.extract (n + 4) (n + 6)) = true
        · by_cases h2 : digS (s.extract (n + 1) (n + 3)) = true
          · exact cprsR_good s w hs n hn h10 h3 h6 h1 h2
          · have h2' : digS (s.extract (n + 1) (n + 3)) = false := by simpa using h2
            have he : cpE s.data.toList = 5 := cpE_no (by rw [hfm, h2']; simp)
            have hne : cpE s.data.toList ≠ 0 := by rw [he]; omega
            rw [cpV_no hne, cpV_no hne, cpV_no hne, he]
            exact cprsR_bad s w hs n hn h10 (.inr (.inr (.inr h2')))
        · have h1' : digS (s.extract (n + 4) (n + 6)) = false := by simpa using h1
          have he : cpE s.data.toList = 5 := cpE_no (by rw [hfm, h1']; simp)
          have hne : cpE s.data.toList ≠ 0 := by rw [he]; omega
          rw [cpV_no hne, cpV_no hne, cpV_no hne, he]
          exact cprsR_bad s w hs n hn h10 (.inr (.inr (.inl h1')))
      · have he : cpE s.data.toList = 5 := cpE_no (by rw [hfm, decide_eq_false h6]; simp)
        have hne : cpE s.data.toList ≠ 0 := by rw [he]; omega
        rw [cpV_no hne, cpV_no hne, cpV_no hne, he]
        exact cprsR_bad s w hs n hn h10 (.inr (.inl h6))
    · have he : cpE s.data.toList = 5 := cpE_no (by rw [hfm, decide_eq_false h3]; simp)
      have hne : cpE s.data.toList ≠ 0 := by rw [he]; omega
      rw [cpV_no hne, cpV_no hne, cpV_no hne, he]
      exact cprsR_bad s w hs n hn h10 (.inl h3)
end Go.Proofs.YtiemlpmhhbmfiaaGreatDoor
