/- The functions of package civils, each with what it returns of whatever civil day, day, year or string. -/
import Derived.Test.YtiemlpmhhbmfiaaGreatDoorCivCs
import Derived.Test.YtiemlpmhhbmfiaaGreatDoorCivZs
namespace Go.Proofs.YtiemlpmhhbmfiaaGreatDoor
open Go.RowKit

/-- What the program's start has laid, as far as the calls lean on it. -/
def Start (w : World) : Prop := StartYM w ∧ StartI w
theorem Start.below {w w' : World} (h : Start w) (hb : Below w.heap.size w w') : Start w' := ⟨h.1.below hb, h.2.below hb⟩
/-- The world of a call that began at w: what the start has laid is there, and below w's size nothing has turned. -/
def Ok (w W : World) : Prop := Start W ∧ Below w.heap.size w W
theorem Ok.step {w W W' : World} (h : Ok w W) (hb : Below W.heap.size W W') : Ok w W' := ⟨h.1.below hb, h.2.trans (hb.mono h.2.size)⟩
theorem Ok.refl {w : World} (h : Start w) : Ok w w := ⟨h, Below.refl _ _⟩

section
variable (y m d : Int) (w : World) (hs : Start w) (hy : I64 y) (hm : I64 m) (hd : I64 d)
include hs hy hm hd
theorem civ_check : Calls Tryz.prog 13 #[.agg #[.int .i64 y, .int .i64 m, .int .i64 d]] w fun e w' => e = .returned (.int .i64 (cE y m d)) ∧ Below w.heap.size w w' := pcheck_any y m d w hs.1 hy hm hd
theorem civ_day : Calls Tryz.prog 11 #[.agg #[.int .i64 y, .int .i64 m, .int .i64 d]] w fun e w' => e = .returned (.tuple #[.int .i64 (cV y m d (cday y m d)), .int .i64 (cE y m d)]) ∧ Below w.heap.size w w' := pday_any y m d w hs.1 hy hm hd
theorem civ_ord : Calls Tryz.prog 12 #[.agg #[.int .i64 y, .int .i64 m, .int .i64 d]] w fun e w' => e = .returned (.tuple #[.int .i64 (cV y m d (cday y m d - stI y + 1)), .int .i64 (cE y m d)]) ∧ Below w.heap.size w w' := pord_any y m d w hs.1 hy hm hd
theorem civ_text : Calls Tryz.prog 27 #[.agg #[.int .i64 y, .int .i64 m, .int .i64 d]] w fun e w' => e = .returned (.tuple #[.string (cTx y m d), .int .i64 (cE y m d)]) ∧ Below w.heap.size w w' := ptext_any y m d w hs.1 hs.2 hy hm hd
omit hs hy hm hd in
theorem civ_cmp (_hs : Start w) (_hy : I64 y) (_hm : I64 m) (_hd : I64 d) (x u v : Int) (_hx : I64 x) (_hu : I64 u) (_hv : I64 v) :
    Calls Tryz.prog 25 #[.agg #[.int .i64 y, .int .i64 m, .int .i64 d], .agg #[.int .i64 x, .int .i64 u, .int .i64 v]] w fun e w' => e = .returned (.int .i64 (cm3 y m d x u v)) ∧ Below w.heap.size w w' := pcmp_any y m d w x u v
end
theorem civ_of (d : Int) (w : World) (hs : Start w) (hd : I64 d) :
    Calls Tryz.prog 16 #[.int .i64 d] w fun e w' => e = .returned (.tuple #[.agg #[.int .i64 (oV d (yrOf d)), .int .i64 (oV d (moOf d : Nat)), .int .i64 (oV d (cDy d))], .int .i64 (oE d)]) ∧ Below w.heap.size w w' := pof_any d w hs.1 hd
theorem civ_wd (d : Int) (w : World) (_ : Start w) (_ : I64 d) :
    Calls Tryz.prog 20 #[.int .i64 d] w fun e w' => e = .returned (.int .i64 (wdI d)) ∧ Below w.heap.size w w' := (pwd_any d w).mono fun _ _ ⟨p, q⟩ => ⟨p, q ▸ Below.refl _ _⟩
theorem civ_from (y n : Int) (w : World) (hs : Start w) (hy : I64 y) (hn : I64 n) :
    Calls Tryz.prog 17 #[.int .i64 y, .int .i64 n] w fun e w' => e = .returned (.tuple #[.agg #[.int .i64 (fV y n y), .int .i64 (fV y n (moOf (stI y + n - 1) : Nat)), .int .i64 (fV y n (cDy (stI y + n - 1)))], .int .i64 (fE y n)]) ∧ Below w.heap.size w w' := pfrom_any y n w hs.1 hy hn
/-- Texts of at most so many bytes are read. -/
def pMax : Nat := 140737488355328
theorem civ_parse (s : ByteArray) (w : World) (hs : Start w) (hl : s.size ≤ pMax) :
    Calls Tryz.prog 28 #[.string s] w fun e w' => e = .returned (.tuple #[.agg #[.int .i64 (cpV s.data.toList (cY s.data.toList)), .int .i64 (cpV s.data.toList (cM s.data.toList)), .int .i64 (cpV s.data.toList (cD s.data.toList))], .int .i64 (cpE s.data.toList)]) ∧ Below w.heap.size w w' := pparse_any s w hs.1 hs.2 hl
end Go.Proofs.YtiemlpmhhbmfiaaGreatDoor
