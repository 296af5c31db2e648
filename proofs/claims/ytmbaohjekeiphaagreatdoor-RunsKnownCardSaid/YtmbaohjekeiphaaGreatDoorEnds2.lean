/- ints.Text and ints.Parse over any world (the portable form: no other text on package ints is wanted); what the program's start has laid of the library's tables; the library's string functions by their contracts. -/
import Derived.Test.YtmbaohjekeiphaaGreatDoorShelf
import Derived.Test.YtmbaohjekeiphaaGreatDoorEnds1
import Derived.WalkKit
import Derived.WalkSmall
import Derived.Lib.AtoiErrMem
import Derived.Maps.RangeRun
namespace Go.Proofs.YtmbaohjekeiphaaGreatDoor
open Go.RowKit Go.Shelf

theorem gPow : Tryz.prog.globalNamed "internal/strconv.uint64pow10" = some 3 := by kernel_rfl
theorem gRange : Tryz.prog.globalNamed "strconv.ErrRange" = some 2 := by kernel_rfl
/-- What the program's start has laid of the library's tables. -/
structure StartI (w : World) : Prop where
  tab : Lib.TabIs Tryz.prog w "internal/strconv.uint64pow10" .u64 Lib.pow10Tab
  rng : ∃ tp p, w.var? Tryz.prog "strconv.ErrRange" = some #[.iface tp p]
  size : 3 < w.heap.size ∧ 2 < w.heap.size
theorem StartI.below {w w' : World} (h : StartI w) (hb : Below w.heap.size w w') : StartI w' := by
  obtain ⟨h5, h6⟩ := h.size
  obtain ⟨tp, p, hr⟩ := h.rng
  exact ⟨var?_below hb gPow h5 h.tab, ⟨tp, p, var?_below hb gRange h6 hr⟩, by have := hb.size; omega⟩

theorem itext_any (n : Int) (w : World) (hs : StartI w) (h0 : -9223372036854775808 ≤ n) (h1 : n ≤ 9223372036854775807) :
    Calls Tryz.prog 91 #[.int .i64 n] w fun e w' => e = .returned (.string ⟨(Lib.itoa n).toArray⟩) ∧ Below w.heap.size w w' := by
  have hf : Calls Tryz.prog 100 #[.int .i64 n, .int .i64 10] w fun e w' => e = .returned (.string ⟨(Lib.itoa n).toArray⟩) ∧ ∃ k os, w' = Sort.grow (w.drewN k) os := Any.strconv_FormatInt_10 Tryz.lays173 n h0 h1 w hs.tab
  have hf' : Calls Tryz.prog 100 #[.int .i64 n, .int .i64 10] w fun e w' => e = .returned (.string ⟨(Lib.itoa n).toArray⟩) ∧ Below w.heap.size w w' := by
    refine hf.mono ?_
    rintro e w' ⟨rfl, k, os, rfl⟩
    refine ⟨rfl, rfl, rfl, rfl, by simp [Sort.grow], fun i hi => ?_⟩
    simp only [Sort.grow]
    exact Array.getElem?_append_left (by simpa using hi)
  clear hf
  go_enter Tryz.func91, Tryz.ntmps91
  go_wp2_with (go_at_call 100; refine hf'.mono ?_; rintro e w' ⟨rfl, hb⟩)
  go_ret
  exact ⟨rfl, hb⟩

theorem trimp_any (s : ByteArray) (w : World) :
    Calls Tryz.prog 97 #[.string s, .string ⟨#[45]⟩] w fun e w' => e = .returned (.string ⟨(bare s.data.toList).toArray⟩) ∧ w = w' :=
  (Any.strings_TrimPrefix Tryz.lays101 s ⟨#[45]⟩ w).mono fun _ _ ⟨h1, h2⟩ => ⟨h1, h2.symm⟩

def allDig (d : ByteArray) : Bool := d.data.toList.all digitB
theorem all_take_snoc (d : ByteArray) (k : Nat) (h : k < d.size) : (d.data.toList.take (k + 1)).all digitB = ((d.data.toList.take k).all digitB && digitB d[k]) := by
  rw [List.take_succ_eq_append_getElem (by simpa using h), List.all_append]
  simp only [List.all_cons, List.all_nil, Bool.and_true]
  rfl
theorem all_take_not (d : ByteArray) (k : Nat) (h : k < d.size) (hd : digitB d[k] = false) : d.data.toList.all digitB = false := by
  rw [List.all_eq_false]
  refine ⟨d[k], ?_, by simp [hd]⟩
  have : d[k] = d.data.toList[k]'(by simpa using h) := rfl
  rw [this]
  exact List.getElem_mem _

set_option maxHeartbeats 400000 in
theorem istext_any (s : ByteArray) (w : World) (hs : s.size ≤ 281474976710656) :
    Calls Tryz.prog 89 #[.string s] w fun e w' => e = .returned (.bool (isTextB s.data.toList)) ∧ w = w' := by
  obtain ⟨d, hd⟩ : ∃ d : ByteArray, d = ⟨(bare s.data.toList).toArray⟩ := ⟨_, rfl⟩
  have hdl : d.data.toList = bare s.data.toList := by rw [hd]
  have ht : ∀ w, Calls Tryz.prog 97 #[.string s, .string ⟨#[45]⟩] w fun e w' => e = .returned (.string d) ∧ w = w' := by rw [hd]; exact fun w => trimp_any s w
  have HT := Lib.hid ht
  clear hd ht
  cases hb : bare s.data.toList with
  | nil =>
    have hr : isTextB s.data.toList = false := by simp [isTextB, hb]
    rw [hr]
    have h1 : d.toList.isEmpty = true := by rw [ByteArray.toList_eq, hdl, hb]; rfl
    clear hr hb hdl
    go_enter Tryz.func89, Tryz.ntmps89
    go_wp2_with (go_at_call 97; refine (HT.out _).mono ?_; rintro e w' ⟨rfl, rfl⟩)
    go_ret
    exact ⟨rfl, rfl⟩
  | cons c r =>
    have h1 : d.toList.isEmpty = false := by rw [ByteArray.toList_eq, hdl, hb]; rfl
    have h2 : 0 < d.size := by rw [Lib.size_eq, hdl, hb]; simp
    have h3 : d[0] = c := by
      have : d[0] = d.data.toList[0]'(by simpa using h2) := rfl
      rw [this]; simp only [hdl, hb, List.getElem_cons_zero]
    have hlen : d.size ≤ s.size := by
      rw [Lib.size_eq, Lib.size_eq, hdl]
      unfold bare Lib.trimPrefix
      split
      · rw [List.length_drop]; omega
      · exact Nat.le_refl _
    by_cases hc : c.toNat = 48
    · have hr : isTextB s.data.toList = (s.toList == [48]) := by
        simp only [isTextB, hb, if_pos hc, ByteArray.toList_eq]
        rw [Bool.eq_iff_iff]; simp
      rw [hr]
      have h4 : ((d[0].toNat : Int) == 48) = true := by rw [h3, beq_iff_eq]; omega
      clear hr hb hdl h3 hc
      go_enter Tryz.func89, Tryz.ntmps89
      go_wp2_with (go_at_call 97; refine (HT.out _).mono ?_; rintro e w' ⟨rfl, rfl⟩)
      go_ret
      exact ⟨rfl, rfl⟩
    · have hr : isTextB s.data.toList = allDig d := by simp only [isTextB, hb, if_neg hc, hdl, allDig]
      rw [hr]
      have h4 : ((d[0].toNat : Int) == 48) = false := by rw [h3, beq_eq_false_iff_ne]; omega
      clear hr hb hdl h3 hc
      go_enter Tryz.func89, Tryz.ntmps89
      go_wp2_with (go_at_call 97; refine (HT.out _).mono ?_; rintro e w' ⟨rfl, rfl⟩)
      clear h1 h4
      go_loop [16] (fun i => ∃ k : Nat, k ≤ d.size ∧ i = .int .i64 k ∧ Hid ((d.data.toList.take k).all digitB = true)) (fun i => d.size - (intOf i).toNat)
      case atStart => exact ⟨0, Nat.zero_le _, rfl, Lib.hid (by simp)⟩
      case round =>
        obtain ⟨k, hk, rfl, hall⟩ := hrel
        by_cases hlt : k < d.size
        · have hsn := all_take_snoc d k hlt
          have hnot := all_take_not d k hlt
          by_cases hd1 : 48 ≤ (d[k].toNat : Int) ∧ (d[k].toNat : Int) ≤ 57
          · have HN : Hid ((d.data.toList.take (k + 1)).all digitB = true) := by
              rw [hsn, hall.out, digitB_of hd1]; rfl
            obtain ⟨hx, hy⟩ := hd1
            clear hsn hnot
            go_wp2
            go_round
            case rel => exact ⟨k + 1, by omega, by go_num, HN⟩
            case measure => simp [intOf]; omega
          · have HN : Hid (allDig d = false) := hnot (digitB_not hd1)
            clear hsn hnot
            by_cases hx : (d[k].toNat : Int) < 48
            all_goals
              try have hy : 57 < (d[k].toNat : Int) := by omega
              clear hd1
              go_wp2
              go_ret
              exact ⟨ret_b HN.out.symm, rfl⟩
        · have hke : k = d.size := by omega
          have HN : Hid (allDig d = true) := by
            have := hall.out
            show d.data.toList.all digitB = true
            rwa [List.take_of_length_le (by rw [hke, Lib.size_eq]; exact Nat.le_refl _)] at this
          clear hke
          go_wp2
          go_ret
          exact ⟨ret_b HN.out.symm, rfl⟩

/-- The error of a text of a number, and its number. -/
def iE (l : List UInt8) : Int := if isTextB l = true then fitE (valB l) else 5
def iV (l : List UInt8) : Int := if isTextB l = true then fitV (valB l) else 0
set_option maxHeartbeats 400000 in
theorem iparse_any (s : ByteArray) (w : World) (hw : StartI w) (hs : s.size ≤ 281474976710656) :
    Calls Tryz.prog 81 #[.string s] w fun e w' => e = .returned (.tuple #[.int .i64 (iV s.data.toList), .int .i64 (iE s.data.toList)]) ∧ Below w.heap.size w w' := by
  have HI := Lib.hid (fun X => istext_any s X hs)
  cases h : isTextB s.data.toList
  · rw [show iV s.data.toList = 0 from if_neg (by rw [h]; decide), show iE s.data.toList = 5 from if_neg (by rw [h]; decide)]
    rw [h] at HI
    clear h hw
    go_enter Tryz.func81, Tryz.ntmps81
    go_wp2_with (go_at_call 89; refine (HI.out _).mono ?_; rintro e w' ⟨rfl, rfl⟩)
    go_ret2
    exact ⟨rfl, Below.refl _ _⟩
  · have hp := parseInt_right h
    rw [show iV s.data.toList = fitV (valB s.data.toList) from if_pos h, show iE s.data.toList = fitE (valB s.data.toList) from if_pos h]
    rw [h] at HI
    clear h
    by_cases hfit : -9223372036854775808 ≤ valB s.data.toList ∧ valB s.data.toList ≤ 9223372036854775807
    · rw [fitV_in hfit.1 hfit.2, fitE_in hfit.1 hfit.2]
      rw [if_pos hfit] at hp
      have hc : Calls Tryz.prog 90 #[.string s, .int .i64 10, .int .i64 64] w fun e w' => e = .returned (.tuple #[.int .i64 (valB s.data.toList), .nilIface]) ∧ Below w.heap.size w w' := by
        refine (Any.strconv_ParseInt_10_at64_ok Tryz.lays174 s (by omega) _ hp w).mono ?_
        rintro e w' ⟨rfl, hw'⟩
        refine ⟨rfl, ?_⟩
        rcases hw' with rfl | ⟨t, rfl⟩
        · exact Below.refl _ _
        · exact Lib.bytesWorld_below _ _ _
      have HC := Lib.hid hc
      generalize valB s.data.toList = v at *
      clear hp hfit hc hw
      go_enter Tryz.func81, Tryz.ntmps81
      go_wp2_with (first
        | (go_at_call 89; refine (HI.out _).mono ?_; rintro e w' ⟨rfl, rfl⟩)
        | (go_at_call 90; refine HC.out.mono ?_; rintro e w' ⟨rfl, hb⟩))
      go_ret2
      exact ⟨rfl, hb⟩
    · rw [fitV_out (by omega), fitE_out (by omega)]
      rw [if_neg hfit] at hp
      obtain ⟨tp, p, hr⟩ := hw.rng
      have hc := Any.strconv_ParseInt_10_at64_range_var Tryz.lays174 s hs hp tp p w hr
      have HC := Lib.hid hc
      clear hp hfit hc hr hw
      go_enter Tryz.func81, Tryz.ntmps81
      go_wp2_with (first
        | (go_at_call 89; refine (HI.out _).mono ?_; rintro e w' ⟨rfl, rfl⟩)
        | (go_at_call 90; refine HC.out.mono ?_; rintro e w' ⟨N, rfl, _, _, hb⟩))
      go_ret2
      exact ⟨rfl, hb⟩
end Go.Proofs.YtmbaohjekeiphaaGreatDoor
/- The functions of package ends, for the landed code: Text, Parse. -/
namespace Go.Proofs.YtmbaohjekeiphaaGreatDoor
open Go.RowKit
open Go.ChangeMaps (setBlock)

/-- What Text returns. -/
def enT (i d : Int) : ByteArray := if enE i d = 0 then enS i d else ⟨#[]⟩
theorem kinfs_any (W X : World) (h : Below W.heap.size W X) : Calls Tryz.prog 80 #[] X fun x w' => (∃ g, x = .returned (.map (some g)) ∧ end8.MapB w' g) ∧ Below W.heap.size W w' :=
  (end8.inf_any X).mono fun _ _ ⟨⟨h1, h2⟩, h3, _⟩ => ⟨⟨_, h1, h2⟩, h.trans (h3.mono h.size)⟩
theorem look_is {X : World} {g : Nat} (h : end8.MapB X g) (i d : Int) (s : ByteArray) (b : Bool) (hs : (if i = -1 ∧ d = 0 then ⟨#[45, 105, 110, 102]⟩ else if i = 1 ∧ d = 0 then ⟨#[105, 110, 102]⟩ else ⟨#[]⟩ : ByteArray) = s) (hb : decide ((i = -1 ∨ i = 1) ∧ d = 0) = b) :
    (Instr.lookup 107 (.map (some g)) (.agg #[.int .i8 i, .int .i64 d]) true).run Tryz.prog X = .ok (.tuple #[.string s, .bool b]) X := by
  rw [← hs, ← hb]; exact end8.look_any h i d
theorem enT_cases (i d : Int) : (enE i d = 5 ∧ enT i d = ⟨#[]⟩) ∨ (enE i d = 0 ∧ i = 1 ∧ d = 0 ∧ enT i d = ⟨#[105, 110, 102]⟩) ∨ (enE i d = 0 ∧ i = -1 ∧ d = 0 ∧ enT i d = ⟨#[45, 105, 110, 102]⟩) ∨ (enE i d = 0 ∧ i = 0 ∧ enT i d = ⟨(Lib.itoa d).toArray⟩) := by
  unfold enT
  rcases enE_cases i d with ⟨e, rfl⟩ | ⟨e, rfl, rfl⟩ | ⟨e, rfl, rfl⟩ | ⟨e, -⟩
  · exact .inr (.inr (.inr ⟨e, rfl, by rw [if_pos e]; rfl⟩))
  · exact .inr (.inl ⟨e, rfl, rfl, by rw [if_pos e]; rfl⟩)
  · exact .inr (.inr (.inl ⟨e, rfl, rfl, by rw [if_pos e]; rfl⟩))
  · exact .inl ⟨e, by rw [if_neg (by rw [e]; decide)]⟩
set_option maxRecDepth 100000 in
theorem ktext_any (i d : Int) (w : World) (hs : StartI w) (hd : I64 d) : Calls Tryz.prog 84 #[E2 i d] w fun x w' => x = .returned (.tuple #[.string (enT i d), .int .i64 (enE i d)]) ∧ Below w.heap.size w w' := by
  have hC := fun X => kchk_any i d X
  have hT : ∀ X, Below w.heap.size w X → Calls Tryz.prog 91 #[.int .i64 d] X fun x w' => x = .returned (.string ⟨(Lib.itoa d).toArray⟩) ∧ Below w.heap.size w w' := fun X h => (itext_any d X (hs.below h) hd.1 hd.2).mono fun _ _ ⟨h1, h2⟩ => ⟨h1, h.trans (h2.mono h.size)⟩
  clear hs hd
  rcases enT_cases i d with ⟨e, q⟩ | ⟨e, rfl, rfl, q⟩ | ⟨e, rfl, rfl, q⟩ | ⟨e, rfl, q⟩
  all_goals
    rw [e] at hC
    rw [e, q]
    clear e q
  · go_enter Tryz.func84, Tryz.ntmps84
    go_upto_region 1 with fail
    obtain ⟨hK, hlt, hb⟩ := end_new w i d _ rfl
    generalize (w.alloc (Obj.cells #[Value.int IntKind.i8 i, Value.int IntKind.i64 d] 24)) = W1 at *
    obtain ⟨f0, f1⟩ := id hK.duo
    have HC := Lib.hid (fun X (h : Below W1.heap.size W1 X) => callB hC h)
    clear hC hT
    go_wp2_with (go_at_call 37; ((with_reducible refine (HC.out _ (Below.refl _ _)).mono ?_); rintro z w2 ⟨rfl, hk⟩))
    go_ret2
    exact ⟨rfl, hb.trans (hk.mono (Nat.le_of_lt hlt))⟩
  · go_enter Tryz.func84, Tryz.ntmps84
    go_upto_region 1 with fail
    obtain ⟨hK, hlt, hb⟩ := end_new w 1 0 _ rfl
    generalize (w.alloc (Obj.cells #[Value.int IntKind.i8 1, Value.int IntKind.i64 0] 24)) = W1 at *
    obtain ⟨f0, f1⟩ := id hK.duo
    have HC := Lib.hid (fun X (h : Below W1.heap.size W1 X) => callB hC h)
    have HT := Lib.hid hT
    clear hC hT
    go_upto_region 4 with (go_at_call 37; ((with_reducible refine (HC.out _ (Below.refl _ _)).mono ?_); rintro z w2 ⟨rfl, hk⟩; obtain ⟨m0, m1⟩ := (hK.below hlt hk).duo))
    have hK2 := hK.below hlt hk
    have hb2 := hb.trans (hk.mono (Nat.le_of_lt hlt))
    have hlt2 := Nat.lt_of_lt_of_le hlt hk.size
    clear HC hk f0 f1 hK hlt hb
    have HN := Lib.hid (fun X h => kinfs_any w2 X h)
    go_region_held3 (fun x => x.cell? ⟨w.heap.size, 0, none⟩ = some (.int .i8 1) ∧ x.cell? ⟨w.heap.size, 1, none⟩ = some (.int .i64 0)) (go_keep)
      (first
        | (go_at_call 80; ((with_reducible refine (HN.out _ (by go_grown)).mono ?_); rintro z w3 ⟨⟨g, rfl, hM⟩, hk⟩; have hlook := look_is hM 1 0 ⟨#[105, 110, 102]⟩ true (by rfl) (by rfl); (try clear n0 n1); obtain ⟨n0, n1⟩ := (hK2.below hlt2 hk).duo)))
    all_goals
      have hX := hb2.trans (hk.mono (Nat.le_of_lt hlt2))
      clear hk hM
      go_wp2_with (go_at_call 91; ((with_reducible refine (HT.out _ hX).mono ?_); rintro z w4 ⟨rfl, hk⟩; clear hX; have hX := hk))
      go_ret2
      exact ⟨rfl, hX⟩
  · go_enter Tryz.func84, Tryz.ntmps84
    go_upto_region 1 with fail
    obtain ⟨hK, hlt, hb⟩ := end_new w (-1) 0 _ rfl
    generalize (w.alloc (Obj.cells #[Value.int IntKind.i8 (-1), Value.int IntKind.i64 0] 24)) = W1 at *
    obtain ⟨f0, f1⟩ := id hK.duo
    have HC := Lib.hid (fun X (h : Below W1.heap.size W1 X) => callB hC h)
    have HT := Lib.hid hT
    clear hC hT
    go_upto_region 4 with (go_at_call 37; ((with_reducible refine (HC.out _ (Below.refl _ _)).mono ?_); rintro z w2 ⟨rfl, hk⟩; obtain ⟨m0, m1⟩ := (hK.below hlt hk).duo))
    have hK2 := hK.below hlt hk
    have hb2 := hb.trans (hk.mono (Nat.le_of_lt hlt))
    have hlt2 := Nat.lt_of_lt_of_le hlt hk.size
    clear HC hk f0 f1 hK hlt hb
    have HN := Lib.hid (fun X h => kinfs_any w2 X h)
    go_region_held3 (fun x => x.cell? ⟨w.heap.size, 0, none⟩ = some (.int .i8 (-1)) ∧ x.cell? ⟨w.heap.size, 1, none⟩ = some (.int .i64 0)) (go_keep)
      (first
        | (go_at_call 80; ((with_reducible refine (HN.out _ (by go_grown)).mono ?_); rintro z w3 ⟨⟨g, rfl, hM⟩, hk⟩; have hlook := look_is hM (-1) 0 ⟨#[45, 105, 110, 102]⟩ true (by rfl) (by rfl); (try clear n0 n1); obtain ⟨n0, n1⟩ := (hK2.below hlt2 hk).duo)))
    all_goals
      have hX := hb2.trans (hk.mono (Nat.le_of_lt hlt2))
      clear hk hM
      go_wp2_with (go_at_call 91; ((with_reducible refine (HT.out _ hX).mono ?_); rintro z w4 ⟨rfl, hk⟩; clear hX; have hX := hk))
      go_ret2
      exact ⟨rfl, hX⟩
  · go_enter Tryz.func84, Tryz.ntmps84
    go_upto_region 1 with fail
    obtain ⟨hK, hlt, hb⟩ := end_new w 0 d _ rfl
    generalize (w.alloc (Obj.cells #[Value.int IntKind.i8 0, Value.int IntKind.i64 d] 24)) = W1 at *
    obtain ⟨f0, f1⟩ := id hK.duo
    have HC := Lib.hid (fun X (h : Below W1.heap.size W1 X) => callB hC h)
    have HT := Lib.hid hT
    clear hC hT
    go_upto_region 4 with (go_at_call 37; ((with_reducible refine (HC.out _ (Below.refl _ _)).mono ?_); rintro z w2 ⟨rfl, hk⟩; obtain ⟨m0, m1⟩ := (hK.below hlt hk).duo))
    have hK2 := hK.below hlt hk
    have hb2 := hb.trans (hk.mono (Nat.le_of_lt hlt))
    have hlt2 := Nat.lt_of_lt_of_le hlt hk.size
    clear HC hk f0 f1 hK hlt hb
    have HN := Lib.hid (fun X h => kinfs_any w2 X h)
    go_region_held3 (fun x => x.cell? ⟨w.heap.size, 0, none⟩ = some (.int .i8 0) ∧ x.cell? ⟨w.heap.size, 1, none⟩ = some (.int .i64 d)) (go_keep)
      (first
        | (go_at_call 80; ((with_reducible refine (HN.out _ (by go_grown)).mono ?_); rintro z w3 ⟨⟨g, rfl, hM⟩, hk⟩; have hlook := look_is hM 0 d ⟨#[]⟩ false (by rfl) (by rfl); (try clear n0 n1); obtain ⟨n0, n1⟩ := (hK2.below hlt2 hk).duo)))
    all_goals
      have hX := hb2.trans (hk.mono (Nat.le_of_lt hlt2))
      clear hk hM
      go_wp2_with (go_at_call 91; ((with_reducible refine (HT.out _ hX).mono ?_); rintro z w4 ⟨rfl, hk⟩; clear hX; have hX := hk))
      go_ret2
      exact ⟨rfl, hX⟩
end Go.Proofs.YtmbaohjekeiphaaGreatDoor
/- The functions of package ends, for the landed code: Parse. -/
namespace Go.Proofs.YtmbaohjekeiphaaGreatDoor
open Go.RowKit
open Go.ChangeMaps (setBlock)

theorem lt_of_heap {X : World} {r : Nat} {o : Obj} (h : X.heap[r]? = some o) : r < X.heap.size := by
  rcases Nat.lt_or_ge r X.heap.size with h' | h'
  · exact h'
  · simp [Array.getElem?_eq_none h'] at h
theorem setBlock_same {X : World} {r : Nat} {o o' : Obj} (h : X.heap[r]? = some o) : (setBlock X r o').heap[r]? = some o' := by
  have : r < X.heap.size := by
    rcases Nat.lt_or_ge r X.heap.size with h' | h'
    · exact h'
    · simp [Array.getElem?_eq_none h'] at h
  unfold setBlock; simp [this]
theorem setBlock_other {X : World} {r g : Nat} {o' : Obj} (h : r ≠ g) : (setBlock X r o').heap[g]? = X.heap[g]? := by
  unfold setBlock; simp [h]
theorem iterSeen_of {X : World} {r : Nat} {m : Option Nat} {a c : Nat} {seen : Array Nat} (h : X.heap[r]? = some (.mapIter m a seen c)) : X.iterSeen r = seen := by simp [World.iterSeen, h]

/-- Two texts, each with its end. -/
def Two (es : Array MapEntry) : Prop := ∃ k l : Int, ∃ s t : ByteArray, (k = -1 ∧ l = 1 ∧ s = minS ∧ t = infS ∨ k = 1 ∧ l = -1 ∧ s = infS ∧ t = minS) ∧ es = #[end8.ent k s 0, end8.ent l t 1]
theorem Two.mem {es : Array MapEntry} (h : Two es) {e : MapEntry} (he : e ∈ es.toList) : (e.key = E2 1 0 ∧ e.val = .string infS) ∨ (e.key = E2 (-1) 0 ∧ e.val = .string minS) := by
  obtain ⟨k, l, s, t, ⟨rfl, rfl, rfl, rfl⟩ | ⟨rfl, rfl, rfl, rfl⟩, rfl⟩ := h <;> (simp at he; rcases he with rfl | rfl)
  · exact .inr ⟨rfl, rfl⟩
  · exact .inl ⟨rfl, rfl⟩
  · exact .inl ⟨rfl, rfl⟩
  · exact .inr ⟨rfl, rfl⟩
theorem Two.born {es : Array MapEntry} (h : Two es) : ∀ e ∈ es.toList, e.born < 2 := by
  obtain ⟨k, l, s, t, -, rfl⟩ := h
  intro e he
  simp at he
  rcases he with rfl | rfl
  · exact Nat.zero_lt_two
  · exact Nat.one_lt_two
theorem Two.nodup {es : Array MapEntry} (h : Two es) : (es.toList.map (·.born)).Nodup := by
  obtain ⟨k, l, s, t, -, rfl⟩ := h
  show [0, 1].Nodup
  decide
theorem Two.has {es : Array MapEntry} (h : Two es) : (∃ e ∈ es.toList, e.val = .string infS) ∧ ∃ e ∈ es.toList, e.val = .string minS := by
  obtain ⟨k, l, s, t, ⟨rfl, rfl, rfl, rfl⟩ | ⟨rfl, rfl, rfl, rfl⟩, rfl⟩ := h
  · exact ⟨⟨end8.ent 1 infS 1, by simp, rfl⟩, ⟨end8.ent (-1) minS 0, by simp, rfl⟩⟩
  · exact ⟨⟨end8.ent 1 infS 0, by simp, rfl⟩, ⟨end8.ent (-1) minS 1, by simp, rfl⟩⟩
theorem one_val {es : Array MapEntry} (h : Two es) {x e : MapEntry} (hx : x ∈ es.toList) (he : e ∈ es.toList) (hb : x.born = e.born) : x.val = e.val := by
  obtain ⟨k, l, s, t, -, rfl⟩ := h
  simp at hx he
  rcases hx with rfl | rfl <;> rcases he with rfl | rfl
  · rfl
  · exact absurd hb Nat.zero_ne_one
  · exact absurd hb Nat.one_ne_zero
  · rfl
theorem two_of {X : World} {g : Nat} (h : end8.MapB X g) : ∃ es, Two es ∧ X.heap[g]? = some (.map es 2) := by
  obtain ⟨k, l, s, t, h1, h2⟩ := h
  exact ⟨_, ⟨k, l, s, t, h1, rfl⟩, h2⟩
theorem pr_other (s : ByteArray) (h1 : ¬ s = infS) (h2 : ¬ s = minS) : prI s = 0 ∧ prD s = iV s.data.toList ∧ prE s = iE s.data.toList := by
  unfold iV iE
  rcases prE_cases s with ⟨h, -⟩ | ⟨-, h, -⟩ | ⟨-, -, h3, q⟩ | ⟨-, -, h3, h4, q⟩ | ⟨-, -, h3, h4, q⟩
  · exact absurd h h1
  · exact absurd h h2
  · rw [h3, q.1, q.2.1, q.2.2]; exact ⟨rfl, rfl, rfl⟩
  · have := of_decide_eq_false h4
    rw [h3, q.1, q.2.1, q.2.2, if_pos rfl, if_pos rfl, fitV_out (by omega), fitE_out (by omega)]; exact ⟨rfl, rfl, rfl⟩
  · have := of_decide_eq_true h4
    rw [h3, q.1, q.2.1, q.2.2, if_pos rfl, if_pos rfl, fitV_in this.1 this.2, fitE_in this.1 this.2]; exact ⟨rfl, rfl, rfl⟩
theorem pr_inf (s : ByteArray) (h : s = infS) : prI s = 1 ∧ prD s = 0 ∧ prE s = 0 := by subst h; exact ⟨rfl, rfl, rfl⟩
theorem pr_min (s : ByteArray) (h : s = minS) : prI s = -1 ∧ prD s = 0 ∧ prE s = 0 := by
  subst h
  rcases prE_cases minS with ⟨h, -⟩ | ⟨-, -, q⟩ | ⟨-, h, -⟩ | ⟨-, h, -⟩ | ⟨-, h, -⟩
  · exact absurd h minS_not
  · exact q
  all_goals exact absurd rfl h

theorem below_setBlock {B r : Nat} {W X : World} {o : Obj} (h : Below B W X) (hr : B ≤ r) : Below B W (setBlock X r o) :=
  ⟨h.os, h.tape, h.output, by unfold setBlock; simpa using h.size, fun i hi => by rw [setBlock_other (by omega)]; exact h.block i hi⟩
theorem none_left {es : Array MapEntry} {seen : Array Nat} (h : (leftOf es seen).size = 0) : ∀ e ∈ es.toList, seen.contains e.born = true := by
  intro e he
  have h1 := Array.eq_empty_of_size_eq_zero h
  unfold leftOf at h1
  rw [Array.filter_eq_empty_iff] at h1
  have := h1 e (by simpa using he)
  simpa using this
theorem left_mem {es : Array MapEntry} {seen : Array Nat} {e : MapEntry} (h : e ∈ (leftOf es seen).toList) : e ∈ es.toList ∧ ¬ seen.contains e.born = true := by
  unfold leftOf at h
  simpa using h
theorem left_less {es : Array MapEntry} {seen : Array Nat} {e : MapEntry} (h : e ∈ (leftOf es seen).toList) : (leftOf es (seen.push e.born)).size < (leftOf es seen).size := by
  obtain ⟨h1, h2⟩ := left_mem h
  have := filter_lt (fun x : MapEntry => !seen.contains x.born) (fun x : MapEntry => !(seen.push e.born).contains x.born) (fun x hx => by simp at hx ⊢; exact hx.1) e (by simpa using h2) (by simp) es.toList h1
  have e1 : ∀ p : MapEntry → Bool, (es.filter p).size = (es.toList.filter p).length := fun p => by rw [← Array.toList_filter, Array.length_toList]
  unfold leftOf
  rw [e1, e1]
  exact this
set_option maxRecDepth 100000 in
theorem kparse_any (s : ByteArray) (w : World) (hs : StartI w) (hl : s.size ≤ 140737488355328) : Calls Tryz.prog 61 #[.string s] w fun x w' => x = .returned (.tuple #[E2 (prI s) (prD s), .int .i64 (prE s)]) ∧ Below w.heap.size w w' := by
  obtain ⟨a, b, c, ha, hb, hc⟩ : ∃ a b c, prI s = a ∧ prD s = b ∧ prE s = c := ⟨_, _, _, rfl, rfl, rfl⟩
  have HQ1 := Lib.hid (pr_inf s)
  have HQ2 := Lib.hid (pr_min s)
  have HQ3 := Lib.hid (pr_other s)
  rw [ha, hb, hc] at HQ1 HQ2 HQ3
  rw [ha, hb, hc]
  clear ha hb hc
  obtain ⟨p, q, hp, hq⟩ : ∃ p q, iV s.data.toList = p ∧ iE s.data.toList = q := ⟨_, _, rfl, rfl⟩
  have HP : Hid (∀ W1, Below w.heap.size w W1 → ∀ X, Below W1.heap.size W1 X → Calls Tryz.prog 81 #[.string s] X fun x w' => x = .returned (.tuple #[.int .i64 (iV s.data.toList), .int .i64 (iE s.data.toList)]) ∧ Below W1.heap.size W1 w') :=
    Lib.hid fun W1 h1 X h => (iparse_any s X (hs.below (h1.trans (h.mono h1.size))) (by omega)).mono fun _ _ ⟨q1, q2⟩ => ⟨q1, h.trans (q2.mono h.size)⟩
  rw [hp, hq] at HP HQ3
  clear hs hl hp hq
  go_enter Tryz.func61, Tryz.ntmps61
  go_upto_region 1 with fail
  obtain ⟨hK, hlt, hbl⟩ := end_new w 0 0 _ rfl
  generalize (w.alloc (Obj.cells #[Value.int IntKind.i8 0, Value.int IntKind.i64 0] 24)) = W1 at *
  have HN := Lib.hid (fun X h => kinfs_any W1 X h)
  have HP2 := Lib.hid (HP.out W1 hbl)
  clear HP
  go_wp2_with (go_at_call 80; ((with_reducible refine (HN.out _ (Below.refl _ _)).mono ?_); rintro z w2 ⟨⟨gm, rfl, hM⟩, hk⟩; obtain ⟨es, h2, hm⟩ := two_of hM; have hrg := run_range_map (P := Tryz.prog) w2 107 _ _ gm es 2 Tryz.underlying107 hm; clear hM))
  have hgr : gm < w2.heap.size := by
    rcases Nat.lt_or_ge gm w2.heap.size with h' | h'
    · exact h'
    · simp [Array.getElem?_eq_none h'] at hm
  have hB1 := hk.size
  have s1 := heap_alloc_new w2 (.mapIter (some gm) 2 #[] 2)
  have s2 := (heap_alloc_old w2 (.mapIter (some gm) 2 #[] 2) hgr).trans hm
  have s3 : Below W1.heap.size W1 (w2.alloc (.mapIter (some gm) 2 #[] 2)) := hk.trans (by go_grown)
  clear hrg hm hk HN
  generalize w2.alloc (.mapIter (some gm) 2 #[] 2) = W3 at *
  generalize w2.heap.size = gr at *
  go_loopw [] (fun wr => ∃ seen, wr.heap[gr]? = some (.mapIter (some gm) 2 seen 2) ∧ wr.heap[gm]? = some (.map es 2) ∧ Below W1.heap.size W1 wr ∧ Hid (∀ e ∈ es.toList, seen.contains e.born = true → ¬ e.val = .string s)) (fun wr => (leftOf es (wr.iterSeen gr)).size)
  case atStart => exact ⟨#[], s1, s2, s3, Lib.hid (fun e _ h => by simp at h)⟩
  case round =>
    obtain ⟨seen, hr, hm, hX, hno⟩ := hrel
    clear s1 s2 s3
    have law := run_next_at (P := Tryz.prog) wr 0 gr gm 2 2 seen es 2 hr hm h2.born (Nat.le_refl _)
    rcases law with ⟨h0, hrun⟩ | ⟨e, he, w5, hw5, hrun⟩
    · have hall := none_left h0
      obtain ⟨⟨e1, i1, v1⟩, ⟨e2, i2, v2⟩⟩ := h2.has
      have ne1 : ¬ s = infS := fun h => hno.out e1 i1 (hall e1 i1) (by rw [v1, h])
      have ne2 : ¬ s = minS := fun h => hno.out e2 i2 (hall e2 i2) (by rw [v2, h])
      obtain ⟨r1, r2, r3⟩ := HQ3.out ne1 ne2
      subst r1; subst r2; subst r3
      clear ne1 ne2 hno hall e1 i1 v1 e2 i2 v2 h0 HQ1 HQ2 HQ3 h2 hm hr
      have HO := Lib.hid (fun X (h : Below W1.heap.size W1 X) => callB (kof_any b) h)
      have hnx : ∀ ty, (Instr.next (.pointer (some ⟨gr, 0, none⟩)) false ty).run Tryz.prog wr = _ := fun _ => hrun
      clear hrun
      go_wp2_with (first
        | (go_at_call 81; ((with_reducible refine (HP2.out _ hX).mono ?_); rintro z w4 ⟨rfl, hk⟩; clear hX; have hX := hk; clear hk))
        | (go_at_call 47; ((with_reducible refine (HO.out _ hX).mono ?_); rintro z w4 ⟨rfl, hk⟩; clear hX; have HM := Lib.hid (hK.below hlt hk); obtain ⟨u0, u1⟩ := HM.out.duo; have z0 := HM.out.frozen 0; have z1 := HM.out.frozen 1; have HB := Lib.hid (hbl.trans (hk.mono (Nat.le_of_lt hlt))); clear hk)))
      exact bodyPost_ret (res_end2 rfl rfl rfl (HM.out.store 0 b).duo) rfl ⟨rfl, set2_below HB.out (by omega) 0 b⟩
    · obtain ⟨hmem, hns⟩ := left_mem he
      have hless := left_less he
      have hrw : w5.heap = wr.heap := by rcases hw5 with rfl | rfl <;> rfl
      have h5 : Below W1.heap.size W1 w5 := by rcases hw5 with rfl | rfl <;> exact ⟨hX.os, hX.tape, hX.output, hX.size, hX.block⟩
      have hm5 : w5.heap[gm]? = some (.map es 2) := by rw [hrw]; exact hm
      have yr := setBlock_same (X := w5) (r := gr) (o' := .mapIter (some gm) 2 (seen.push e.born) 2) (by rw [hrw]; exact hr)
      have ym := (setBlock_other (X := w5) (r := gr) (g := gm) (o' := .mapIter (some gm) 2 (seen.push e.born) 2) (by omega)).trans hm5
      have yX := below_setBlock (o := .mapIter (some gm) 2 (seen.push e.born) 2) h5 hB1
      generalize setBlock w5 gr (.mapIter (some gm) 2 (seen.push e.born) 2) = Y at *
      have hen := run_entry_at (P := Tryz.prog) Y gr gm 2 seen es 2 e yr ym hmem h2.nodup
      have hms : (leftOf es (wr.iterSeen gr)).size = (leftOf es seen).size := by rw [iterSeen_of hr]
      clear hrw h5 hw5 hX hm5
      rcases h2.mem hmem with ⟨hk1, hv1⟩ | ⟨hk1, hv1⟩
      · have hv2 : e.val = .string ⟨#[105, 110, 102]⟩ := hv1
        rw [hk1, hv2] at hrun hen
        clear hv2
        have zX : Below W1.heap.size W1 (Y.alloc (.cells #[.int .i8 1, .int .i64 0] 24)) := yX.trans ((show Below Y.heap.size Y (Y.alloc (.cells #[.int .i8 1, .int .i64 0] 24)) from by go_grown).mono yX.size)
        have HM := Lib.hid (hK.below hlt zX)
        obtain ⟨u0, u1⟩ := HM.out.duo
        have z0 := HM.out.frozen 0
        have z1 := HM.out.frozen 1
        have zr := (heap_alloc_old Y (.cells #[.int .i8 1, .int .i64 0] 24) (lt_of_heap yr)).trans yr
        have zm := (heap_alloc_old Y (.cells #[.int .i8 1, .int .i64 0] 24) (lt_of_heap ym)).trans ym
        have ZX := Lib.hid zX
        have ZR := Lib.hid zr
        have ZM := Lib.hid zm
        have hnx : ∀ ty, (Instr.next (.pointer (some ⟨gr, 0, none⟩)) false ty).run Tryz.prog wr = _ := fun _ => hrun
        clear hrun zX zr zm yX hm yr ym
        by_cases hsx : s = infS
        · have hq := str_is (l := [105, 110, 102]) hsx
          obtain ⟨r1, r2, r3⟩ := HQ1.out hsx
          subst r1; subst r2; subst r3
          clear hno he hmem hk1 HP2 hv1 hsx HQ1 HQ2 HQ3 hr ZR ZM hless hms hns
          go_wp2
          exact bodyPost_ret (res_end2 rfl rfl rfl (HM.out.store 1 0).duo) rfl ⟨rfl, set2_below (hbl.trans (ZX.out.mono (Nat.le_of_lt hlt))) (by omega) 1 0⟩
        · have hq := str_not (l := [105, 110, 102]) hsx
          have HV := Lib.hid hv1
          have HE := Lib.hid hmem
          have HL := Lib.hid hless
          have HS := Lib.hid hms
          clear hv1 he hmem hk1 hless hms hns hr
          go_wp2
          go_round
          case rel => exact ⟨seen.push e.born, ZR.out, ZM.out, ZX.out, Lib.hid (fun x hx hc hv => by
            rcases (by simpa using hc : x.born ∈ seen ∨ x.born = e.born) with h | h
            · exact hno.out x hx (by simpa using h) hv
            · rw [one_val h2 hx HE.out h, HV.out] at hv
              exact hsx (Value.string.inj hv).symm)⟩
          case measure =>
            show (leftOf es (World.iterSeen _ gr)).size < _
            rw [iterSeen_of ZR.out, HS.out]
            exact HL.out
      · have hv2 : e.val = .string ⟨#[45, 105, 110, 102]⟩ := hv1
        rw [hk1, hv2] at hrun hen
        clear hv2
        have zX : Below W1.heap.size W1 (Y.alloc (.cells #[.int .i8 (-1), .int .i64 0] 24)) := yX.trans ((show Below Y.heap.size Y (Y.alloc (.cells #[.int .i8 (-1), .int .i64 0] 24)) from by go_grown).mono yX.size)
        have HM := Lib.hid (hK.below hlt zX)
        obtain ⟨u0, u1⟩ := HM.out.duo
        have z0 := HM.out.frozen 0
        have z1 := HM.out.frozen 1
        have zr := (heap_alloc_old Y (.cells #[.int .i8 (-1), .int .i64 0] 24) (lt_of_heap yr)).trans yr
        have zm := (heap_alloc_old Y (.cells #[.int .i8 (-1), .int .i64 0] 24) (lt_of_heap ym)).trans ym
        have ZX := Lib.hid zX
        have ZR := Lib.hid zr
        have ZM := Lib.hid zm
        have hnx : ∀ ty, (Instr.next (.pointer (some ⟨gr, 0, none⟩)) false ty).run Tryz.prog wr = _ := fun _ => hrun
        clear hrun zX zr zm yX hm yr ym
        by_cases hsx : s = minS
        · have hq := str_is (l := [45, 105, 110, 102]) hsx
          obtain ⟨r1, r2, r3⟩ := HQ2.out hsx
          subst r1; subst r2; subst r3
          clear hno he hmem hk1 HP2 hv1 hsx HQ1 HQ2 HQ3 hr ZR ZM hless hms hns
          go_wp2
          exact bodyPost_ret (res_end2 rfl rfl rfl (HM.out.store (-1) 0).duo) rfl ⟨rfl, set2_below (hbl.trans (ZX.out.mono (Nat.le_of_lt hlt))) (by omega) (-1) 0⟩
        · have hq := str_not (l := [45, 105, 110, 102]) hsx
          have HV := Lib.hid hv1
          have HE := Lib.hid hmem
          have HL := Lib.hid hless
          have HS := Lib.hid hms
          clear hv1 he hmem hk1 hless hms hns hr
          go_wp2
          go_round
          case rel => exact ⟨seen.push e.born, ZR.out, ZM.out, ZX.out, Lib.hid (fun x hx hc hv => by
            rcases (by simpa using hc : x.born ∈ seen ∨ x.born = e.born) with h | h
            · exact hno.out x hx (by simpa using h) hv
            · rw [one_val h2 hx HE.out h, HV.out] at hv
              exact hsx (Value.string.inj hv).symm)⟩
          case measure =>
            show (leftOf es (World.iterSeen _ gr)).size < _
            rw [iterSeen_of ZR.out, HS.out]
            exact HL.out
end Go.Proofs.YtmbaohjekeiphaaGreatDoor
