/- The functions of package ends, for the landed code: Text, Parse. -/
import Derived.Test.YtjgaoajbcbpbbaaDoorEndF
import Derived.Test.YtjgaoajbcbpbbaaDoorEndM
import Derived.Test.YtjgaoajbcbpbbaaDoorEndT
import Derived.Test.YtjgaoajbcbpbbaaDoorIText
import Derived.Maps.RangeRun
namespace Go.Proofs.YtjgaoajbcbpbbaaDoor
open Go.RowKit
open Go.ChangeMaps (setBlock)

/-- What Text returns. -/
def enT (i d : Int) : ByteArray := if enE i d = 0 then enS i d else ⟨#[]⟩
theorem kinfs_any (W X : World) (h : Below W.heap.size W X) : Calls Tryd.prog 31 #[] X fun x w' => (∃ g, x = .returned (.map (some g)) ∧ end8.MapB w' g) ∧ Below W.heap.size W w' :=
  (end8.inf_any X).mono fun _ _ ⟨⟨h1, h2⟩, h3, _⟩ => ⟨⟨_, h1, h2⟩, h.trans (h3.mono h.size)⟩
theorem look_is {X : World} {g : Nat} (h : end8.MapB X g) (i d : Int) (s : ByteArray) (b : Bool) (hs : (if i = -1 ∧ d = 0 then ⟨#[45, 105, 110, 102]⟩ else if i = 1 ∧ d = 0 then ⟨#[105, 110, 102]⟩ else ⟨#[]⟩ : ByteArray) = s) (hb : decide ((i = -1 ∨ i = 1) ∧ d = 0) = b) :
    (Instr.lookup 52 (.map (some g)) (.agg #[.int .i8 i, .int .i64 d]) true).run Tryd.prog X = .ok (.tuple #[.string s, .bool b]) X := by
  rw [← hs, ← hb]; exact end8.look_any h i d
theorem enT_cases (i d : Int) : (enE i d = 5 ∧ enT i d = ⟨#[]⟩) ∨ (enE i d = 0 ∧ i = 1 ∧ d = 0 ∧ enT i d = ⟨#[105, 110, 102]⟩) ∨ (enE i d = 0 ∧ i = -1 ∧ d = 0 ∧ enT i d = ⟨#[45, 105, 110, 102]⟩) ∨ (enE i d = 0 ∧ i = 0 ∧ enT i d = ⟨(Lib.itoa d).toArray⟩) := by
  unfold enT
  rcases enE_cases i d with ⟨e, rfl⟩ | ⟨e, rfl, rfl⟩ | ⟨e, rfl, rfl⟩ | ⟨e, -⟩
  · exact .inr (.inr (.inr ⟨e, rfl, by rw [if_pos e]; rfl⟩))
  · exact .inr (.inl ⟨e, rfl, rfl, by rw [if_pos e]; rfl⟩)
  · exact .inr (.inr (.inl ⟨e, rfl, rfl, by rw [if_pos e]; rfl⟩))
  · exact .inl ⟨e, by rw [if_neg (by rw [e]; decide)]⟩
set_option maxRecDepth 100000 in
theorem ktext_any (i d : Int) (w : World) (hs : StartI w) (hd : I64 d) : Calls Tryd.prog 21 #[E2 i d] w fun x w' => x = .returned (.tuple #[.string (enT i d), .int .i64 (enE i d)]) ∧ Below w.heap.size w w' := by
  have hC := fun X => kchk_any i d X
  have hT : ∀ X, Below w.heap.size w X → Calls Tryd.prog 32 #[.int .i64 d] X fun x w' => x = .returned (.string ⟨(Lib.itoa d).toArray⟩) ∧ Below w.heap.size w w' := fun X h => (itext_any d X (hs.below h) hd.1 hd.2).mono fun _ _ ⟨h1, h2⟩ => ⟨h1, h.trans (h2.mono h.size)⟩
  clear hs hd
  rcases enT_cases i d with ⟨e, q⟩ | ⟨e, rfl, rfl, q⟩ | ⟨e, rfl, rfl, q⟩ | ⟨e, rfl, q⟩
  all_goals
    rw [e] at hC
    rw [e, q]
    clear e q
  · go_enter Tryd.func21, Tryd.ntmps21
    go_upto_region 1 with fail
    obtain ⟨hK, hlt, hb⟩ := end_new w i d _ rfl
    generalize (w.alloc (Obj.cells #[Value.int IntKind.i8 i, Value.int IntKind.i64 d] 24)) = W1 at *
    obtain ⟨f0, f1⟩ := id hK.duo
    have HC := Lib.hid (fun X (h : Below W1.heap.size W1 X) => callB hC h)
    clear hC hT
    go_wp2_with (go_at_call 17; ((with_reducible refine (HC.out _ (Below.refl _ _)).mono ?_); rintro z w2 ⟨rfl, hk⟩))
    go_ret2
    exact ⟨rfl, hb.trans (hk.mono (Nat.le_of_lt hlt))⟩
  · go_enter Tryd.func21, Tryd.ntmps21
    go_upto_region 1 with fail
    obtain ⟨hK, hlt, hb⟩ := end_new w 1 0 _ rfl
    generalize (w.alloc (Obj.cells #[Value.int IntKind.i8 1, Value.int IntKind.i64 0] 24)) = W1 at *
    obtain ⟨f0, f1⟩ := id hK.duo
    have HC := Lib.hid (fun X (h : Below W1.heap.size W1 X) => callB hC h)
    have HT := Lib.hid hT
    clear hC hT
    go_upto_region 4 with (go_at_call 17; ((with_reducible refine (HC.out _ (Below.refl _ _)).mono ?_); rintro z w2 ⟨rfl, hk⟩; obtain ⟨m0, m1⟩ := (hK.below hlt hk).duo))
    have hK2 := hK.below hlt hk
    have hb2 := hb.trans (hk.mono (Nat.le_of_lt hlt))
    have hlt2 := Nat.lt_of_lt_of_le hlt hk.size
    clear HC hk f0 f1 hK hlt hb
    have HN := Lib.hid (fun X h => kinfs_any w2 X h)
    go_region_held3 (fun x => x.cell? ⟨w.heap.size, 0, none⟩ = some (.int .i8 1) ∧ x.cell? ⟨w.heap.size, 1, none⟩ = some (.int .i64 0)) (go_keep)
      (first
        | (go_at_call 31; ((with_reducible refine (HN.out _ (by go_grown)).mono ?_); rintro z w3 ⟨⟨g, rfl, hM⟩, hk⟩; have hlook := look_is hM 1 0 ⟨#[105, 110, 102]⟩ true (by rfl) (by rfl); (try clear n0 n1); obtain ⟨n0, n1⟩ := (hK2.below hlt2 hk).duo)))
    all_goals
      have hX := hb2.trans (hk.mono (Nat.le_of_lt hlt2))
      clear hk hM
      go_wp2_with (go_at_call 32; ((with_reducible refine (HT.out _ hX).mono ?_); rintro z w4 ⟨rfl, hk⟩; clear hX; have hX := hk))
      go_ret2
      exact ⟨rfl, hX⟩
  · go_enter Tryd.func21, Tryd.ntmps21
    go_upto_region 1 with fail
    obtain ⟨hK, hlt, hb⟩ := end_new w (-1) 0 _ rfl
    generalize (w.alloc (Obj.cells #[Value.int IntKind.i8 (-1), Value.int IntKind.i64 0] 24)) = W1 at *
    obtain ⟨f0, f1⟩ := id hK.duo
    have HC := Lib.hid (fun X (h : Below W1.heap.size W1 X) => callB hC h)
    have HT := Lib.hid hT
    clear hC hT
    go_upto_region 4 with (go_at_call 17; ((with_reducible refine (HC.out _ (Below.refl _ _)).mono ?_); rintro z w2 ⟨rfl, hk⟩; obtain ⟨m0, m1⟩ := (hK.below hlt hk).duo))
    have hK2 := hK.below hlt hk
    have hb2 := hb.trans (hk.mono (Nat.le_of_lt hlt))
    have hlt2 := Nat.lt_of_lt_of_le hlt hk.size
    clear HC hk f0 f1 hK hlt hb
    have HN := Lib.hid (fun X h => kinfs_any w2 X h)
    go_region_held3 (fun x => x.cell? ⟨w.heap.size, 0, none⟩ = some (.int .i8 (-1)) ∧ x.cell? ⟨w.heap.size, 1, none⟩ = some (.int .i64 0)) (go_keep)
      (first
        | (go_at_call 31; ((with_reducible refine (HN.out _ (by go_grown)).mono ?_); rintro z w3 ⟨⟨g, rfl, hM⟩, hk⟩; have hlook := look_is hM (-1) 0 ⟨#[45, 105, 110, 102]⟩ true (by rfl) (by rfl); (try clear n0 n1); obtain ⟨n0, n1⟩ := (hK2.below hlt2 hk).duo)))
    all_goals
      have hX := hb2.trans (hk.mono (Nat.le_of_lt hlt2))
      clear hk hM
      go_wp2_with (go_at_call 32; ((with_reducible refine (HT.out _ hX).mono ?_); rintro z w4 ⟨rfl, hk⟩; clear hX; have hX := hk))
      go_ret2
      exact ⟨rfl, hX⟩
  · go_enter Tryd.func21, Tryd.ntmps21
    go_upto_region 1 with fail
    obtain ⟨hK, hlt, hb⟩ := end_new w 0 d _ rfl
    generalize (w.alloc (Obj.cells #[Value.int IntKind.i8 0, Value.int IntKind.i64 d] 24)) = W1 at *
    obtain ⟨f0, f1⟩ := id hK.duo
    have HC := Lib.hid (fun X (h : Below W1.heap.size W1 X) => callB hC h)
    have HT := Lib.hid hT
    clear hC hT
    go_upto_region 4 with (go_at_call 17; ((with_reducible refine (HC.out _ (Below.refl _ _)).mono ?_); rintro z w2 ⟨rfl, hk⟩; obtain ⟨m0, m1⟩ := (hK.below hlt hk).duo))
    have hK2 := hK.below hlt hk
    have hb2 := hb.trans (hk.mono (Nat.le_of_lt hlt))
    have hlt2 := Nat.lt_of_lt_of_le hlt hk.size
    clear HC hk f0 f1 hK hlt hb
    have HN := Lib.hid (fun X h => kinfs_any w2 X h)
    go_region_held3 (fun x => x.cell? ⟨w.heap.size, 0, none⟩ = some (.int .i8 0) ∧ x.cell? ⟨w.heap.size, 1, none⟩ = some (.int .i64 d)) (go_keep)
      (first
        | (go_at_call 31; ((with_reducible refine (HN.out _ (by go_grown)).mono ?_); rintro z w3 ⟨⟨g, rfl, hM⟩, hk⟩; have hlook := look_is hM 0 d ⟨#[]⟩ false (by rfl) (by rfl); (try clear n0 n1); obtain ⟨n0, n1⟩ := (hK2.below hlt2 hk).duo)))
    all_goals
      have hX := hb2.trans (hk.mono (Nat.le_of_lt hlt2))
      clear hk hM
      go_wp2_with (go_at_call 32; ((with_reducible refine (HT.out _ hX).mono ?_); rintro z w4 ⟨rfl, hk⟩; clear hX; have hX := hk))
      go_ret2
      exact ⟨rfl, hX⟩
