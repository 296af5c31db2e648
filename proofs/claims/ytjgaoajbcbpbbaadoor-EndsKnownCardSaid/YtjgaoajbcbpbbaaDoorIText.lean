/- ints.Text and ints.Parse over any world (the portable form: no other text on package ints is wanted); what the program's start has laid of the library's tables; the library's string functions by their contracts. -/
import Derived.Test.YtjgaoajbcbpbbaaDoorShelf
import Derived.Test.YtjgaoajbcbpbbaaDoorIAdd
import Derived.WalkKit
import Derived.WalkSmall
import Derived.Lib.AtoiErrMem
namespace Go.Proofs.YtjgaoajbcbpbbaaDoor
open Go.RowKit Go.Shelf

theorem gPow : Tryd.prog.globalNamed "internal/strconv.uint64pow10" = some 0 := by kernel_rfl
theorem gRange : Tryd.prog.globalNamed "strconv.ErrRange" = some 2 := by kernel_rfl
/-- What the program's start has laid of the library's tables. -/
structure StartI (w : World) : Prop where
  tab : Lib.TabIs Tryd.prog w "internal/strconv.uint64pow10" .u64 Lib.pow10Tab
  rng : ∃ tp p, w.var? Tryd.prog "strconv.ErrRange" = some #[.iface tp p]
  size : 0 < w.heap.size ∧ 2 < w.heap.size
theorem StartI.below {w w' : World} (h : StartI w) (hb : Below w.heap.size w w') : StartI w' := by
  obtain ⟨h5, h6⟩ := h.size
  obtain ⟨tp, p, hr⟩ := h.rng
  exact ⟨var?_below hb gPow h5 h.tab, ⟨tp, p, var?_below hb gRange h6 hr⟩, by have := hb.size; omega⟩

theorem itext_any (n : Int) (w : World) (hs : StartI w) (h0 : -9223372036854775808 ≤ n) (h1 : n ≤ 9223372036854775807) :
    Calls Tryd.prog 32 #[.int .i64 n] w fun e w' => e = .returned (.string ⟨(Lib.itoa n).toArray⟩) ∧ Below w.heap.size w w' := by
  have hf : Calls Tryd.prog 41 #[.int .i64 n, .int .i64 10] w fun e w' => e = .returned (.string ⟨(Lib.itoa n).toArray⟩) ∧ ∃ k os, w' = Sort.grow (w.drewN k) os := Any.strconv_FormatInt_10 Tryd.lays173 n h0 h1 w hs.tab
  have hf' : Calls Tryd.prog 41 #[.int .i64 n, .int .i64 10] w fun e w' => e = .returned (.string ⟨(Lib.itoa n).toArray⟩) ∧ Below w.heap.size w w' := by
    refine hf.mono ?_
    rintro e w' ⟨rfl, k, os, rfl⟩
    refine ⟨rfl, rfl, rfl, rfl, by simp [Sort.grow], fun i hi => ?_⟩
    simp only [Sort.grow]
    exact Array.getElem?_append_left (by simpa using hi)
  clear hf
  go_enter Tryd.func32, Tryd.ntmps32
  go_wp2_with (go_at_call 41; refine hf'.mono ?_; rintro e w' ⟨rfl, hb⟩)
  go_ret
  exact ⟨rfl, hb⟩

theorem trimp_any (s : ByteArray) (w : World) :
    Calls Tryd.prog 48 #[.string s, .string ⟨#[45]⟩] w fun e w' => e = .returned (.string ⟨(bare s.data.toList).toArray⟩) ∧ w = w' :=
  (Any.strings_TrimPrefix Tryd.lays101 s ⟨#[45]⟩ w).mono fun _ _ ⟨h1, h2⟩ => ⟨h1, h2.symm⟩

def allDig (d : ByteArray) : Bool := d.data.toList.all digitB
theorem all_take_snoc (d : ByteArray) (k : Nat) (h : k < d.size) : (d.data.toList.take (k + 1)).all digitB = ((d.data.toList.take k).all digitB && digitB d[k]) := by
  rw [List.take_succ_eq_append_getElem (by simpa using h), List.all_append]
  simp only [List.all_cons, List.all_nil, Bool.and_true]
  rfl
theorem all_take_not (d : ByteArray) (k : Nat) (h : k < d.size) (hd : digitB d[k] = false) : d.data.toList.all digitB = false := by
  rw [List.all_eq_false]
  refine ⟨d[k], ?_, by simp [hd]⟩
  have : d[k] = d.data.toList[k]'(by simpa using h) := rfl
  rw [this]
  exact List.getElem_mem _

set_option maxHeartbeats 400000 in
theorem istext_any (s : ByteArray) (w : World) (hs : s.size ≤ 281474976710656) :
    Calls Tryd.prog 42 #[.string s] w fun e w' => e = .returned (.bool (isTextB s.data.toList)) ∧ w = w' := by
  obtain ⟨d, hd⟩ : ∃ d : ByteArray, d = ⟨(bare s.data.toList).toArray⟩ := ⟨_, rfl⟩
  have hdl : d.data.toList = bare s.data.toList := by rw [hd]
  have ht : ∀ w, Calls Tryd.prog 48 #[.string s, .string ⟨#[45]⟩] w fun e w' => e = .returned (.string d) ∧ w = w' := by rw [hd]; exact fun w => trimp_any s w
  have HT := Lib.hid ht
  clear hd ht
  cases hb : bare s.data.toList with
  | nil =>
    have hr : isTextB s.data.toList = false := by simp [isTextB, hb]
    rw [hr]
    have h1 : d.toList.isEmpty = true := by rw [ByteArray.toList_eq, hdl, hb]; rfl
    clear hr hb hdl
    go_enter Tryd.func42, Tryd.ntmps42
    go_wp2_with (go_at_call 48; refine (HT.out _).mono ?_; rintro e w' ⟨rfl, rfl⟩)
    go_ret
    exact ⟨rfl, rfl⟩
  | cons c r =>
    have h1 : d.toList.isEmpty = false := by rw [ByteArray.toList_eq, hdl, hb]; rfl
    have h2 : 0 < d.size := by rw [Lib.size_eq, hdl, hb]; simp
    have h3 : d[0] = c := by
      have : d[0] = d.data.toList[0]'(by simpa using h2) := rfl
      rw [this]; simp only [hdl, hb, List.getElem_cons_zero]
    have hlen : d.size ≤ s.size := by
      rw [Lib.size_eq, Lib.size_eq, hdl]
      unfold bare Lib.trimPrefix
      split
      · rw [List.length_drop]; omega
      · exact Nat.le_refl _
    by_cases hc : c.toNat = 48
    · have hr : isTextB s.data.toList = (s.toList == [48]) := by
        simp only [isTextB, hb, if_pos hc, ByteArray.toList_eq]
        rw [Bool.eq_iff_iff]; simp
      rw [hr]
      have h4 : ((d[0].toNat : Int) == 48) = true := by rw [h3, beq_iff_eq]; omega
      clear hr hb hdl h3 hc
      go_enter Tryd.func42, Tryd.ntmps42
      go_wp2_with (go_at_call 48; refine (HT.out _).mono ?_; rintro e w' ⟨rfl, rfl⟩)
      go_ret
      exact ⟨rfl, rfl⟩
    · have hr : isTextB s.data.toList = allDig d := by simp only [isTextB, hb, if_neg hc, hdl, allDig]
      rw [hr]
      have h4 : ((d[0].toNat : Int) == 48) = false := by rw [h3, beq_eq_false_iff_ne]; omega
      clear hr hb hdl h3 hc
      go_enter Tryd.func42, Tryd.ntmps42
      go_wp2_with (go_at_call 48; refine (HT.out _).mono ?_; rintro e w' ⟨rfl, rfl⟩)
      clear h1 h4
      go_loop [16] (fun i => ∃ k : Nat, k ≤ d.size ∧ i = .int .i64 k ∧ Hid ((d.data.toList.take k).all digitB = true)) (fun i => d.size - (intOf i).toNat)
      case atStart => exact ⟨0, Nat.zero_le _, rfl, Lib.hid (by simp)⟩
      case round =>
        obtain ⟨k, hk, rfl, hall⟩ := hrel
        by_cases hlt : k < d.size
        · have hsn := all_take_snoc d k hlt
          have hnot := all_take_not d k hlt
          by_cases hd1 : 48 ≤ (d[k].toNat : Int) ∧ (d[k].toNat : Int) ≤ 57
          · have HN : Hid ((d.data.toList.take (k + 1)).all digitB = true) := by
              rw [hsn, hall.out, digitB_of hd1]; rfl
            obtain ⟨hx, hy⟩ := hd1
            clear hsn hnot
            go_wp2
            go_round
            case rel => exact ⟨k + 1, by omega, by go_num, HN⟩
            case measure => simp [intOf]; omega
          · have HN : Hid (allDig d = false) := hnot (digitB_not hd1)
            clear hsn hnot
            by_cases hx : (d[k].toNat : Int) < 48
            all_goals
              try have hy : 57 < (d[k].toNat : Int) := by omega
              clear hd1
              go_wp2
              go_ret
              exact ⟨ret_b HN.out.symm, rfl⟩
        · have hke : k = d.size := by omega
          have HN : Hid (allDig d = true) := by
            have := hall.out
            show d.data.toList.all digitB = true
            rwa [List.take_of_length_le (by rw [hke, Lib.size_eq]; exact Nat.le_refl _)] at this
          clear hke
          go_wp2
          go_ret
          exact ⟨ret_b HN.out.symm, rfl⟩

/-- The error of a text of a number, and its number. -/
def iE (l : List UInt8) : Int := if isTextB l = true then fitE (valB l) else 5
def iV (l : List UInt8) : Int := if isTextB l = true then fitV (valB l) else 0
set_option maxHeartbeats 400000 in
theorem iparse_any (s : ByteArray) (w : World) (hw : StartI w) (hs : s.size ≤ 281474976710656) :
    Calls Tryd.prog 33 #[.string s] w fun e w' => e = .returned (.tuple #[.int .i64 (iV s.data.toList), .int .i64 (iE s.data.toList)]) ∧ Below w.heap.size w w' := by
  have HI := Lib.hid (fun X => istext_any s X hs)
  cases h : isTextB s.data.toList
  · rw [show iV s.data.toList = 0 from if_neg (by rw [h]; decide), show iE s.data.toList = 5 from if_neg (by rw [h]; decide)]
    rw [h] at HI
    clear h hw
    go_enter Tryd.func33, Tryd.ntmps33
    go_wp2_with (go_at_call 42; refine (HI.out _).mono ?_; rintro e w' ⟨rfl, rfl⟩)
    go_ret2
    exact ⟨rfl, Below.refl _ _⟩
  · have hp := parseInt_right h
    rw [show iV s.data.toList = fitV (valB s.data.toList) from if_pos h, show iE s.data.toList = fitE (valB s.data.toList) from if_pos h]
    rw [h] at HI
    clear h
    by_cases hfit : -9223372036854775808 ≤ valB s.data.toList ∧ valB s.data.toList ≤ 9223372036854775807
    · rw [fitV_in hfit.1 hfit.2, fitE_in hfit.1 hfit.2]
      rw [if_pos hfit] at hp
      have hc : Calls Tryd.prog 43 #[.string s, .int .i64 10, .int .i64 64] w fun e w' => e = .returned (.tuple #[.int .i64 (valB s.data.toList), .nilIface]) ∧ Below w.heap.size w w' := by
        refine (Any.strconv_ParseInt_10_at64_ok Tryd.lays174 s (by omega) _ hp w).mono ?_
        rintro e w' ⟨rfl, hw'⟩
        refine ⟨rfl, ?_⟩
        rcases hw' with rfl | ⟨t, rfl⟩
        · exact Below.refl _ _
        · exact Lib.bytesWorld_below _ _ _
      have HC := Lib.hid hc
      generalize valB s.data.toList = v at *
      clear hp hfit hc hw
      go_enter Tryd.func33, Tryd.ntmps33
      go_wp2_with (first
        | (go_at_call 42; refine (HI.out _).mono ?_; rintro e w' ⟨rfl, rfl⟩)
        | (go_at_call 43; refine HC.out.mono ?_; rintro e w' ⟨rfl, hb⟩))
      go_ret2
      exact ⟨rfl, hb⟩
    · rw [fitV_out (by omega), fitE_out (by omega)]
      rw [if_neg hfit] at hp
      obtain ⟨tp, p, hr⟩ := hw.rng
      have hc := Any.strconv_ParseInt_10_at64_range_var Tryd.lays174 s hs hp tp p w hr
      have HC := Lib.hid hc
      clear hp hfit hc hr hw
      go_enter Tryd.func33, Tryd.ntmps33
      go_wp2_with (first
        | (go_at_call 42; refine (HI.out _).mono ?_; rintro e w' ⟨rfl, rfl⟩)
        | (go_at_call 43; refine HC.out.mono ?_; rintro e w' ⟨N, rfl, _, _, hb⟩))
      go_ret2
      exact ⟨rfl, hb⟩
end Go.Proofs.YtjgaoajbcbpbbaaDoor
