/- The law on the order, whatever the ends. -/
import Derived.Test.YtjgaoajbcbpbbaaDoorEndOrd
namespace Go.Proofs.YtjgaoajbcbpbbaaDoor.end8
open Go.RowKit

theorem order_law (i d j e k f : Int) (w W : World) (hi : I8 i) (hd : I64 d) (hj : I8 j) (he : I64 e) (hk : I8 k) (hf : I64 f) (ho : Ok w W) :
    Calls Tryd.prog 3 #[E2 i d, E2 j e, E2 k f] W fun x w' => x = .returned (.bool true) ∧ Ok w w' := by
  have eA : ∀ (i d : Int) w, (binOp .eql 24 (E2 i d) (E2 i d)).run Tryd.prog w = .ok (.bool true) w := fun i d w => by have := eq_any i d i d w; rw [eqE_same] at this; exact this
  have hq : ∀ w, (binOp .eql 24 (E2 i d) (E2 j e)).run Tryd.prog w = .ok (.bool (enC i d j e == 0)) w := fun w => by rw [← enC_eq]; exact eq_any i d j e w
  by_cases hn : enC i d j e ≤ 0
  · refine order_a i d j e k f (enC i d j e) (enC j e k f) (enC i d k f) w W (fun B X hX => lives_t B X hX) (fun B X hX => c_cmp hX i d j e hi hd hj he rfl) (fun B X hX => c_eq hX rfl (cmpE_any i d j e X)) (fun B X hX => c_cmp hX j e i d hj he hi hd (enC_neg i d j e)) (fun B X hX => c_cmp hX j e k f hj he hk hf rfl) (fun B X hX => c_cmp hX i d k f hi hd hk hf rfl) hq (enC_bd i d j e) (eA i d) (eA j e) hn ?_ (fun B X hX => c_min hX i d j e hi hd hj he (if_pos hn) (if_pos hn)) (fun B X hX => ?_) ho
    · rcases Int.lt_or_le 0 (enC j e k f) with h | h
      · exact .inl h
      · exact .inr ⟨h, enC_trans hn h⟩
    · have h0 : mxV i d j e i j = j ∧ mxV i d j e d e = e := by
        unfold mxV
        by_cases h : 0 ≤ enC i d j e
        · have := eqE_iff.1 (by rw [enC_eq, show enC i d j e = 0 by omega]; rfl)
          rw [if_pos h, if_pos h]; exact this
        · rw [if_neg h, if_neg h]; exact ⟨rfl, rfl⟩
      exact c_max hX i d j e hi hd hj he h0.1 h0.2
  · exact order_b i d j e k f (enC i d j e) w W (fun B X hX => lives_t B X hX) (fun B X hX => c_cmp hX i d j e hi hd hj he rfl) (fun B X hX => c_eq hX rfl (cmpE_any i d j e X)) (fun B X hX => c_cmp hX j e i d hj he hi hd (enC_neg i d j e)) hq (enC_bd i d j e) (eA i d) (eA j e) (by omega) (fun B X hX => c_min hX i d j e hi hd hj he (if_neg hn) (if_neg hn)) (fun B X hX => c_max hX i d j e hi hd hj he (if_pos (by omega)) (if_pos (by omega))) ho
end Go.Proofs.YtjgaoajbcbpbbaaDoor.end8
