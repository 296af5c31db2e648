/- The functions of package runs, each with what it returns of whatever runs. -/
import Derived.Test.YtmbaohjekeiphaaGreatDoorRunQs
namespace Go.Proofs.YtmbaohjekeiphaaGreatDoor
open Go.RowKit

/-- What the program's start has laid, as far as the calls lean on it. -/
def Start (w : World) : Prop := StartI w ∧ MaxL w
theorem Start.below {w w' : World} (h : Start w) (hb : Below w.heap.size w w') : Start w' := ⟨h.1.below hb, h.2.below hb⟩
/-- The world of a call that began at w: what the start has laid is there, and below w's size nothing has turned. -/
structure Ok (w W : World) : Prop where
  here : Start W
  low : Below w.heap.size w W
  there : Start w
theorem Ok.step {w W W' : World} (h : Ok w W) (hb : Below W.heap.size W W') : Ok w W' := ⟨h.1.below hb, h.2.trans (hb.mono h.2.size), h.3⟩
theorem Ok.refl {w : World} (h : Start w) : Ok w w := ⟨h, Below.refl _ _, h⟩
theorem Ok.low' {w X : World} (h : Ok w X) {Y : World} (hb : Below w.heap.size w Y) : Ok w Y := ⟨h.3.below hb, hb, h.3⟩
theorem run_check (r : Ru) (w : World) (_hs : Start w) (_hr : r.In) : Calls Tryz.prog 8 #[V4 r] w fun x w' => x = .returned (.int .i64 (ruE r)) ∧ Below w.heap.size w w' := rchk_any r w
theorem run_of (lo hi : Int) (w : World) (_hs : Start w) (_h1 : I64 lo) (_h2 : I64 hi) : Calls Tryz.prog 26 #[.int .i64 lo, .int .i64 hi] w fun x w' => x = .returned (.tuple #[V4 (ofR lo hi), .int .i64 (ofE lo hi)]) ∧ Below w.heap.size w w' := rof_any lo hi w
theorem run_has (r : Ru) (n : Int) (w : World) (_hs : Start w) (_hr : r.In) (_hn : I64 n) : Calls Tryz.prog 21 #[V4 r, .int .i64 n] w fun x w' => x = .returned (.bool (haB r n)) ∧ Below w.heap.size w w' := rhas_any r n w
theorem run_touch (a b : Ru) (w : World) (_hs : Start w) (ha : a.In) (hb : b.In) : Calls Tryz.prog 15 #[V4 a, V4 b] w fun x w' => x = .returned (.bool (toB a b)) ∧ Below w.heap.size w w' := rtou_any a b w ha hb
theorem run_join (a b : Ru) (w : World) (_hs : Start w) (ha : a.In) (hb : b.In) : Calls Tryz.prog 13 #[V4 a, V4 b] w fun x w' => x = .returned (.tuple #[V4 (joR a b), .bool (toB a b)]) ∧ Below w.heap.size w w' := rjoi_any a b w ha hb
theorem run_common (a b : Ru) (w : World) (_hs : Start w) (_ha : a.In) (_hb : b.In) : Calls Tryz.prog 14 #[V4 a, V4 b] w fun x w' => x = .returned (.tuple #[V4 (coR a b), .bool (coB a b)]) ∧ Below w.heap.size w w' := rcom_any a b w
theorem run_within (a b : Ru) (w : World) (_hs : Start w) (_ha : a.In) (_hb : b.In) : Calls Tryz.prog 19 #[V4 a, V4 b] w fun x w' => x = .returned (.bool (wiB a b)) ∧ Below w.heap.size w w' := rwit_any a b w
theorem run_cmp (a b : Ru) (w : World) (_hs : Start w) (_ha : a.In) (_hb : b.In) : Calls Tryz.prog 9 #[V4 a, V4 b] w fun x w' => x = .returned (.int .i64 (ruC a b)) ∧ Below w.heap.size w w' := rcmp_any a b w
theorem run_len (r : Ru) (w : World) (_hs : Start w) (hr : r.In) : Calls Tryz.prog 24 #[V4 r] w fun x w' => x = .returned (.tuple #[.int .i64 (leV r), .int .i64 (leE r)]) ∧ Below w.heap.size w w' := rlen_any r w hr
theorem run_shift (r : Ru) (k : Int) (w : World) (_hs : Start w) (hr : r.In) (hk : I64 k) : Calls Tryz.prog 25 #[V4 r, .int .i64 k] w fun x w' => x = .returned (.tuple #[V4 (shR r k), .int .i64 (shE r k)]) ∧ Below w.heap.size w w' := rshi_any r k w hr hk
theorem run_text (r : Ru) (w : World) (hs : Start w) (hr : r.In) : Calls Tryz.prog 63 #[V4 r] w fun x w' => x = .returned (.tuple #[.string (teS r), .int .i64 (ruE r)]) ∧ Below w.heap.size w w' := rtex_any r w hs.1 hr
theorem run_parse (s : ByteArray) (w : World) (hs : Start w) (hl : s.size ≤ 4294967280) : Calls Tryz.prog 31 #[.string s] w fun x w' => x = .returned (.tuple #[V4 (prR s), .int .i64 (prRE s)]) ∧ Below w.heap.size w w' := rpar_any s w hs.1 hs.2 hl
end Go.Proofs.YtmbaohjekeiphaaGreatDoor
