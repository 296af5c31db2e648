/- The functions of package ends, each with what it returns of whatever ends. -/
import Derived.Test.YtjgaoajbcbpbbaaDoorEndI
namespace Go.Proofs.YtjgaoajbcbpbbaaDoor
open Go.RowKit

/-- What the program's start has laid, as far as the calls lean on it. -/
def Start (w : World) : Prop := StartI w
theorem Start.below {w w' : World} (h : Start w) (hb : Below w.heap.size w w') : Start w' := StartI.below h hb
/-- The world of a call that began at w: what the start has laid is there, and below w's size nothing has turned. -/
def Ok (w W : World) : Prop := Start W ∧ Below w.heap.size w W
theorem Ok.step {w W W' : World} (h : Ok w W) (hb : Below W.heap.size W W') : Ok w W' := ⟨h.1.below hb, h.2.trans (hb.mono h.2.size)⟩
theorem Ok.refl {w : World} (h : Start w) : Ok w w := ⟨h, Below.refl _ _⟩

theorem end_check (i d : Int) (w : World) (_hs : Start w) (_hi : I8 i) (_hd : I64 d) : Calls Tryd.prog 17 #[E2 i d] w fun x w' => x = .returned (.int .i64 (enE i d)) ∧ Below w.heap.size w w' := kchk_any i d w
theorem end_of (d : Int) (w : World) (_hs : Start w) (_hd : I64 d) : Calls Tryd.prog 20 #[.int .i64 d] w fun x w' => x = .returned (E2 0 d) ∧ Below w.heap.size w w' := kof_any d w
theorem end_cmp (i d j e : Int) (w : World) (_hs : Start w) (_hi : I8 i) (_hd : I64 d) (_hj : I8 j) (_he : I64 e) : Calls Tryd.prog 8 #[E2 i d, E2 j e] w fun x w' => x = .returned (.int .i64 (enC i d j e)) ∧ Below w.heap.size w w' := kcomp_any i d j e w
theorem end_next (i d : Int) (w : World) (_hs : Start w) (_hi : I8 i) (hd : I64 d) : Calls Tryd.prog 13 #[E2 i d] w fun x w' => x = .returned (.tuple #[E2 (nxI i d) (nxD i d), .int .i64 (nxE i d)]) ∧ Below w.heap.size w w' := knext_any i d w hd
theorem end_prev (i d : Int) (w : World) (_hs : Start w) (_hi : I8 i) (hd : I64 d) : Calls Tryd.prog 14 #[E2 i d] w fun x w' => x = .returned (.tuple #[E2 (pvI i d) (pvD i d), .int .i64 (pvE i d)]) ∧ Below w.heap.size w w' := kprev_any i d w hd
theorem end_min (i d j e : Int) (w : World) (_hs : Start w) (_hi : I8 i) (_hd : I64 d) (_hj : I8 j) (_he : I64 e) : Calls Tryd.prog 10 #[E2 i d, E2 j e] w fun x w' => x = .returned (E2 (mnV i d j e i j) (mnV i d j e d e)) ∧ Below w.heap.size w w' := kmin_any i d j e w
theorem end_max (i d j e : Int) (w : World) (_hs : Start w) (_hi : I8 i) (_hd : I64 d) (_hj : I8 j) (_he : I64 e) : Calls Tryd.prog 11 #[E2 i d, E2 j e] w fun x w' => x = .returned (E2 (mxV i d j e i j) (mxV i d j e d e)) ∧ Below w.heap.size w w' := kmax_any i d j e w
theorem end_text (i d : Int) (w : World) (hs : Start w) (_hi : I8 i) (hd : I64 d) : Calls Tryd.prog 21 #[E2 i d] w fun x w' => x = .returned (.tuple #[.string (enT i d), .int .i64 (enE i d)]) ∧ Below w.heap.size w w' := ktext_any i d w hs hd
theorem end_parse (s : ByteArray) (w : World) (hs : Start w) (hl : s.size ≤ 140737488355328) : Calls Tryd.prog 22 #[.string s] w fun x w' => x = .returned (.tuple #[E2 (prI s) (prD s), .int .i64 (prE s)]) ∧ Below w.heap.size w w' := kparse_any s w hs hl
end Go.Proofs.YtjgaoajbcbpbbaaDoor
