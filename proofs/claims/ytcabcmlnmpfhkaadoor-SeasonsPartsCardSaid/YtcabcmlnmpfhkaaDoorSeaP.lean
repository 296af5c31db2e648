/- Package seasons: Of and Codes, whatever the day and the code. -/
import Derived.Test.YtcabcmlnmpfhkaaDoorSeaRn
import Derived.Laws.StructEq
namespace Go.Proofs.YtcabcmlnmpfhkaaDoor
open Go.RowKit

/-- The error of Of; what it returns. -/
def oE (d c : Int) : Int := if isC c = true then (if yr (yrOf d) = true then 0 else 6) else 7
def oY (d c : Int) : Int := if oE d c = 0 then ofY d c else 0
def oB (d c : Int) : Bool := if oE d c = 0 then ofB d c else false
def dE (d : Int) : Int := if yr (yrOf d) = true then 0 else 6
/-- The codes whose run has a day. -/
def codesL (d : Int) : List Int := if yr (yrOf d) = true then codesN d 21 else []
/-- A slice of numbers, no longer than it says. -/
def IsL (X : World) (v : Value) (l : List Int) : Prop := ∃ a : Option Addr, v = .slice a l.length l.length ∧ LisC X a l
theorem sea_of (d c : Int) (w : World) (hs : Start w) (hd : I64 d) (hc : I64 c) : Calls Tryd.prog 14 #[.int .i64 d, .int .i64 c] w fun e w' => e = .returned (.tuple #[.int .i64 (oY d c), .bool (oB d c), .int .i64 (oE d c)]) ∧ Below w.heap.size w w' := by
  have HC := Lib.hid (fun X => sea_check c X hc)
  cases hC : isC c
  · have h7 : oE d c = 7 := by unfold oE; rw [hC]; rfl
    have hY : oY d c = 0 := if_neg (by rw [h7]; decide)
    have hB : oB d c = false := if_neg (by rw [h7]; decide)
    have hk : kE c = 7 := by unfold kE; rw [hC]; rfl
    rw [h7, hY, hB]
    rw [hk] at HC
    clear h7 hY hB hk hs
    go_enter Tryd.func14, Tryd.ntmps14
    go_wp2_with (go_at_call 9; ((with_reducible refine (HC.out _).mono ?_); rintro e w1 ⟨rfl, hb1⟩))
    go_ret3
    exact ⟨rfl, hb1⟩
  · have hk : kE c = 0 := by unfold kE; rw [hC]; rfl
    rw [hk] at HC
    have HO := Lib.hid (fun X (hX : Below w.heap.size w X) => mof_any d X (hs.below hX).1 hd)
    cases hy : yr (yrOf d)
    · have h6 : oE d c = 6 := by unfold oE; rw [hC, hy]; rfl
      have hY : oY d c = 0 := if_neg (by rw [h6]; decide)
      have hB : oB d c = false := if_neg (by rw [h6]; decide)
      have hv : ∀ v, oV d v = 0 := fun v => if_neg (by rw [hy]; decide)
      rw [h6, hY, hB]
      rw [hv, hv, yE_out hy] at HO
      clear h6 hY hB hk hs hv hy hC
      go_enter Tryd.func14, Tryd.ntmps14
      go_wp2_with (first
        | (go_at_call 9; ((with_reducible refine (HC.out _).mono ?_); rintro e w1 ⟨rfl, hb1⟩))
        | (go_at_call 28; ((with_reducible refine (HO.out _ hb1).mono ?_); rintro e w2 ⟨rfl, hb2⟩)))
      go_ret3
      exact ⟨rfl, hb1.trans (hb2.mono hb1.size)⟩
    · have h0 : oE d c = 0 := by unfold oE; rw [hC, hy]; rfl
      have hY : oY d c = ofY d c := if_pos h0
      have hB : oB d c = ofB d c := if_pos h0
      have hv : ∀ v, oV d v = v := fun v => if_pos hy
      obtain ⟨m1, m2, -, -⟩ := moOf_spec d
      have HG : Hid (∀ X, Below w.heap.size w X → Calls Tryd.prog 29 #[.int .i64 (yrOf d), .int .i64 (moOf d : Nat), .int .i64 c] X fun e w' => e = .returned (.tuple #[.int .i64 (ofY d c), .bool (ofB d c)]) ∧ Below X.heap.size X w') := fun X hX => by
        have := begun_any (yrOf d) (moOf d : Nat) c X (hs.below hX) hy (by omega) hC
        rw [(beg_of hC).1, (beg_of hC).2] at this
        exact this
      rw [h0, hY, hB]
      rw [hv, hv, yE_in hy] at HO
      clear h0 hY hB hk hs hv hy hC
      generalize ofY d c = OY at *
      generalize ofB d c = OB at *
      generalize yrOf d = y at *
      generalize moOf d = m at *
      go_enter Tryd.func14, Tryd.ntmps14
      go_upto_region 7 with (first
        | (go_at_call 9; ((with_reducible refine (HC.out _).mono ?_); rintro e w1 ⟨rfl, hb1⟩))
        | (go_at_call 28; ((with_reducible refine (HO.out _ hb1).mono ?_); rintro e w2 ⟨rfl, hb2⟩)))
      have hbw := hb1.trans (hb2.mono hb1.size)
      clear HC HO hb1 hb2
      go_wp2_with (go_at_call 29; ((with_reducible refine (HG.out _ hbw).mono ?_); rintro e w3 ⟨rfl, hb3⟩))
      go_ret3
      exact ⟨rfl, hbw.trans (hb3.mono hbw.size)⟩
/-- slices.Clip: no spare capacity. -/
theorem clip_any (a : Option Addr) (l n : Nat) (w : World) (hl : l ≤ n) :
    Calls Tryd.prog 30 #[.slice a l n] w fun e w' => e = .returned (.slice a l l) ∧ w = w' := by
  go_enter Tryd.func30, Tryd.ntmps30
  go_wp2
  go_ret
  exact ⟨rfl, rfl⟩
theorem infoP : (Tryd.prog.info? 3).map (fun i => (i.zero, i.size, i.bytes)) = some (some (.int .i64 0), 1, 8) := by kernel_rfl
theorem own_cap {w : World} {base : Nat} {v : Value} {l : List Int} (h : w.ownsRow base 3 1 v l.length (cellsI l)) : ∃ (a : Option Addr) (m : Nat), v = .slice a l.length m ∧ l.length ≤ m ∧ LisC w a l := by
  obtain ⟨a, m, e, hl⟩ := lisC_of_own h
  refine ⟨a, m, e, ?_, hl⟩
  rcases h.2 with ⟨e2, h0⟩ | ⟨g, cap, cur, e2, hg, hh, hn, hr⟩
  · rw [h0]; exact Nat.zero_le _
  · rw [e] at e2
    injection e2 with e3 e4 e5
    rw [e5]; exact hn
set_option maxRecDepth 100000 in
set_option maxHeartbeats 4000000 in
theorem codes_in (d : Int) (w : World) (hs : Start w) (hd : I64 d) (hy : yr (yrOf d) = true) : Calls Tryd.prog 15 #[.int .i64 d] w fun e w' => ∃ v, e = .returned (.tuple #[v, .int .i64 0]) ∧ Below w.heap.size w w' ∧ (∃ a n, v = .slice a (codesN d 21).length n) ∧ IsL w' v (codesN d 21) := by
  obtain ⟨i0, hi, hz0, hz1, hz2⟩ := info_parts infoP
  have HO := Lib.hid (mof_any d w hs.1 hd)
  have hv : ∀ v, oV d v = v := fun v => if_pos hy
  rw [hv, hv, yE_in hy] at HO
  obtain ⟨m1, m2, -, -⟩ := moOf_spec d
  have HG : Hid (∀ (n : Nat) X, n < 21 → Below w.heap.size w X → Calls Tryd.prog 29 #[.int .i64 (yrOf d), .int .i64 (moOf d : Nat), .int .i64 (21 + (n : Int))] X fun e w' => ∃ z, e = .returned (.tuple #[.int .i64 z, .bool (ofB d (21 + (n : Int)))]) ∧ Below X.heap.size X w') := fun n X hn hX => by
    have hC : isC (21 + (n : Int)) = true := (isC_iff _).2 (by omega)
    have := begun_any (yrOf d) (moOf d : Nat) (21 + (n : Int)) X (hs.below hX) hy (by omega) hC
    rw [(beg_of hC).1] at this
    exact this.mono fun _ _ ⟨p, q⟩ => ⟨_, p, q⟩
  clear hv hy hs
  generalize yrOf d = y at *
  generalize moOf d = m at *
  go_enter Tryd.func15, Tryd.ntmps15
  go_upto_region 5 with (go_at_call 28; ((with_reducible refine HO.out.mono ?_); rintro e w1 ⟨rfl, hb1⟩))
  go_upto_region 6 with fail
  clear HO
  go_loopw [7, 8] (fun v kv wx => ∃ n : Nat, n ≤ 21 ∧ kv = .int .i64 (21 + (n : Int)) ∧ Below w.heap.size w wx ∧ wx.ownsRow w.heap.size 3 1 v (codesN d n).length (cellsI (codesN d n))) (fun _ kv _ => 60 - (intOf kv).toNat)
  case atStart => exact ⟨0, by omega, rfl, hb1, World.ownsRow_nil _ _ _ _⟩
  case round =>
    clear hb1
    obtain ⟨n, hn, rfl, hX, hown⟩ := hrel
    by_cases h21 : n = 21
    · subst h21
      have hl : ¬ (21 : Int) + ((21 : Nat) : Int) ≤ 41 := by omega
      obtain ⟨aw, m2, rfl, hcap, hLw⟩ := own_cap hown
      have HCl := Lib.hid (clip_any aw (codesN d 21).length m2 wr hcap)
      have HX := Lib.hid hX
      have HL : Hid (IsL wr (.slice aw (codesN d 21).length (codesN d 21).length) (codesN d 21)) := ⟨aw, rfl, hLw⟩
      clear hown hLw hX hcap HG
      go_wp2_with (go_at_call 30; ((with_reducible refine HCl.out.mono ?_); rintro e w6 ⟨rfl, rfl⟩))
      go_ret2
      exact ⟨_, rfl, HX.out, ⟨_, _, rfl⟩, HL.out⟩
    · have hl : (21 : Int) + (n : Int) ≤ 41 := by omega
      have hsn := codesN_succ d n
      have HR1 := Lib.hid (HG.out n _ (by omega) hX)
      have hlen := codesN_len d n
      cases hb : ofB d (21 + (n : Int)) with
      | false =>
        rw [hb] at hsn HR1
        have HS : Hid (codesN d (n + 1) = codesN d n) := by show _ = _; rw [hsn]; simp
        have HX := Lib.hid hX
        have HW := Lib.hid hown
        clear hsn hb hX hown
        go_wp2_with (go_at_call 29; ((with_reducible refine HR1.out.mono ?_); rintro e w6 ⟨z, rfl, hk6⟩))
        go_roundw
        case rel => exact ⟨n + 1, by omega, by go_num, HX.out.trans (hk6.mono HX.out.size), by rw [HS.out]; exact own_below HW.out hk6⟩
        case measure => simp [intOf]; omega
      | true =>
        rw [hb] at hsn HR1
        have HS : Hid (codesN d (n + 1) = codesN d n ++ [21 + (n : Int)]) := by show _ = _; rw [hsn]; simp
        have HX := Lib.hid hX
        have HW := Lib.hid hown
        clear hsn hb hX hown
        go_upto_region 10 with (go_at_call 29; ((with_reducible refine HR1.out.mono ?_); rintro e w6 ⟨z, rfl, hk6⟩))
        have hown := own_below HW.out hk6
        have o6 := HX.out.trans (hk6.mono HX.out.size)
        have hsz := o6.size
        have hlt := hown.lt
        go_wp2_with (at_builtin; refine wpList_append_own _ rfl _ _ 42 rfl w.heap.size 3 i0 (.int .i64 0) 1 8 Tryd.underlying42 hi hz0 hz1 hz2 rfl (by decide) _ _ _ rfl (hown.alloc _) ⟨w6.heap.size, 0, none⟩ 1 1 [.int .i64 (21 + (n : Int))] rfl rfl ?c1 ?c2 ?c3 ?c4 ?c5 ?_)
        case c1 => exact cell_one_new _ _ _
        case c2 => intro u hu; rw [List.mem_singleton.1 hu]; rfl
        case c3 => unfold maxLen; omega
        case c4 => omega
        case c5 => simp; omega
        intro v' w7 hown1 hg1 _
        rw [← cellsI_snoc] at hown1
        have hlo : (codesN d n ++ [21 + (n : Int)]).length = (codesN d n).length + 1 := by simp
        rw [← hlo] at hown1
        have ob : Below w.heap.size w w7 := (o6.alloc (by omega) _).grown hg1 (by simp; omega) (fun k hk => (hlt k hk).1)
        have HN1 := Lib.hid hown1
        have OB := Lib.hid ob
        clear hown1 hg1 hlo ob hown o6 hk6 hlt
        go_wp2_with fail
        go_roundw
        case rel => exact ⟨n + 1, by omega, by go_num, OB.out, by rw [HS.out]; exact HN1.out⟩
        case measure => simp [intOf]; omega
theorem sea_codes (d : Int) (w : World) (hs : Start w) (hd : I64 d) : Calls Tryd.prog 15 #[.int .i64 d] w fun e w' => ∃ v, e = .returned (.tuple #[v, .int .i64 (dE d)]) ∧ Below w.heap.size w w' ∧ (∃ a n, v = .slice a (codesL d).length n) ∧ (yr (yrOf d) = true → IsL w' v (codesL d)) := by
  unfold dE codesL
  cases hy : yr (yrOf d)
  · simp only [Bool.false_eq_true, if_false]
    have HO := Lib.hid (mof_any d w hs.1 hd)
    have hv : ∀ v, oV d v = 0 := fun v => if_neg (by rw [hy]; decide)
    rw [hv, hv, yE_out hy] at HO
    clear hv hy hs hd
    go_enter Tryd.func15, Tryd.ntmps15
    go_wp2_with (go_at_call 28; ((with_reducible refine HO.out.mono ?_); rintro e w1 ⟨rfl, hb1⟩))
    go_ret2
    exact ⟨_, rfl, hb1, ⟨_, _, rfl⟩, fun h => by cases h⟩
  · simp only [if_true]
    exact (codes_in d w hs hd hy).mono fun _ _ ⟨v, p, q, r, t⟩ => ⟨v, p, q, r, fun _ => t⟩
end Go.Proofs.YtcabcmlnmpfhkaaDoor
