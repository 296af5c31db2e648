/- The laws on texts: RunsText, RunsParse. -/
import Derived.Test.YtmbaohjekeiphaaGreatDoorRunL
namespace Go.Proofs.YtmbaohjekeiphaaGreatDoor.run9
open Go.RowKit

theorem dot_text : ∀ (a b : List UInt8), (∀ c ∈ a, c ≠ 46) → dotAt (a ++ 46 :: 46 :: b) = a.length
  | [], b, _ => by simp [dotAt]
  | [x], b, h => by
    have hx : x ≠ 46 := h x (by simp)
    show (if x = 46 ∧ (46 : UInt8) = 46 then 0 else dotAt (46 :: 46 :: b) + 1) = 1
    rw [if_neg (fun q => hx q.1)]
    simp [dotAt]
  | x :: y :: r, b, h => by
    have hx : x ≠ 46 := h x (by simp)
    show (if x = 46 ∧ y = 46 then 0 else dotAt ((y :: r) ++ 46 :: 46 :: b) + 1) = _
    rw [if_neg (fun q => hx q.1), dot_text (y :: r) b (fun c hc => h c (by simp at hc ⊢; right; exact hc))]
    rfl
theorem text_no_dot {l : List UInt8} (h : isTextB l = true) : ∀ c ∈ l, c ≠ 46 := by
  have hb : (bare l).all digitB = true := by
    unfold isTextB at h
    split at h
    · cases h
    · rename_i x r hx
      rw [hx]
      split at h
      · rename_i h0
        have : l = [48] := by simpa using h
        subst this
        have hb : bare [48] = [48] := by decide
        rw [hb] at hx
        rw [← hx]; decide
      · exact h
  intro c hc
  have hd : c ∈ bare l ∨ c = 45 := by
    unfold bare Lib.trimPrefix Lib.hasPrefix at *
    by_cases hp : ([45] : List UInt8).isPrefixOf l = true
    · obtain ⟨t, rfl⟩ := List.isPrefixOf_iff_prefix.1 hp
      simp at hc ⊢
      rcases hc with rfl | hc
      · exact .inr rfl
      · exact .inl hc
    · simp only [hp]
      exact .inl hc
  rcases hd with hd | rfl
  · have := List.all_eq_true.1 hb c hd
    unfold digitB at this
    rw [decide_eq_true_eq] at this
    rintro rfl
    exact absurd this (by decide)
  · decide
theorem size_itoa (d : Int) (h : I64 d) : (enS 0 d).size ≤ 100 := by
  rw [enS_zero, Lib.size_eq]
  have := itoa_len d h.1 h.2
  simp
  omega
/-- The text of a right end is read as that end again. -/
theorem back_day (d : Int) (h : I64 d) : prI (enS 0 d) = 0 ∧ prD (enS 0 d) = d ∧ prE (enS 0 d) = 0 := by
  obtain ⟨h1, h2⟩ := itoa_facts d
  have hl : (enS 0 d).data.toList = Lib.itoa d := by rw [enS_zero]
  have n1 : ¬ enS 0 d = infS := fun e => by
    have : isTextB (enS 0 d).data.toList = isTextB _ := congrArg (fun s => isTextB s.data.toList) e
    rw [hl, h1] at this
    revert this; decide
  have n2 : ¬ enS 0 d = minS := fun e => by
    have : isTextB (enS 0 d).data.toList = isTextB _ := congrArg (fun s => isTextB s.data.toList) e
    rw [hl, h1] at this
    revert this; decide
  have hE : prE (enS 0 d) = 0 := by
    unfold prE
    rw [if_neg (by simp [n1, n2]), hl, h1, if_pos rfl, h2]
    exact if_pos h
  exact ⟨by unfold prI; rw [if_neg n1, if_neg n2], by unfold prD; rw [if_neg (by simp [n1, n2]), if_pos hE, hl, h2], hE⟩
theorem back_any {i d : Int} (hd : I64 d) (h : enE i d = 0) : (enS i d).size ≤ 100 ∧ (prI (enS i d) = i ∧ prD (enS i d) = d ∧ prE (enS i d) = 0) := by
  rcases enE_cases i d with ⟨_, rfl⟩ | ⟨_, rfl, rfl⟩ | ⟨_, rfl, rfl⟩ | ⟨e, _⟩
  · exact ⟨size_itoa d hd, back_day d hd⟩
  · exact ⟨by decide, by decide⟩
  · exact ⟨by decide, by decide⟩
  · rw [h] at e; cases e

theorem enL_no_dot {i d : Int} (h : enE i d = 0) : ∀ c ∈ enL i d, c ≠ 46 := by
  rcases enE_cases i d with ⟨_, rfl⟩ | ⟨_, rfl, rfl⟩ | ⟨_, rfl, rfl⟩ | ⟨e, _⟩
  · exact text_no_dot (itoa_facts d).1
  · decide
  · decide
  · rw [h] at e; cases e
theorem ruT_list (r : Ru) : ruT r = ⟨(enL r.i r.d ++ 46 :: 46 :: enL r.j r.e).toArray⟩ := by
  apply ByteArray.ext
  unfold ruT enS
  simp [ByteArray.data_append]
theorem ext_lo (a b : List UInt8) : (⟨(a ++ b).toArray⟩ : ByteArray).extract 0 a.length = ⟨a.toArray⟩ := by
  apply ByteArray.ext
  rw [ByteArray.data_extract]
  simp
theorem ext_hi (a b : List UInt8) (n : Nat) (h : n = a.length) : (⟨(a ++ b).toArray⟩ : ByteArray).extract n (⟨(a ++ b).toArray⟩ : ByteArray).size = ⟨b.toArray⟩ := by
  subst h
  apply ByteArray.ext
  rw [ByteArray.data_extract]
  show (List.toArray (a ++ b)).extract a.length (List.toArray (a ++ b)).size = _
  simp
theorem right_ends {r : Ru} (h : ruE r = 0) : enE r.i r.d = 0 ∧ enE r.j r.e = 0 := by
  unfold ruE at h
  split at h
  · assumption
  · exact absurd h (by decide)
theorem back_run {r : Ru} (hr : r.In) (h : ruE r = 0) : (ruT r).size ≤ 100 ∧ prR (ruT r) = r ∧ prRE (ruT r) = 0 := by
  obtain ⟨h1, h2⟩ := right_ends h
  obtain ⟨s1, b1, b2, b3⟩ := back_any hr.2.1 h1
  obtain ⟨s2, c1, c2, c3⟩ := back_any hr.2.2.2 h2
  have z1 : (enL r.i r.d).length ≤ 20 := enS_size _ _ hr.2.1
  have z2 : (enL r.j r.e).length ≤ 20 := enS_size _ _ hr.2.2.2
  have hs : (ruT r).size = (enL r.i r.d).length + 2 + (enL r.j r.e).length := by
    rw [ruT_list]
    show (List.toArray _).size = _
    simp; omega
  have hd : dotS (ruT r) = (enL r.i r.d).length := by
    unfold dotS
    rw [ruT_list]
    exact dot_text _ _ (enL_no_dot h1)
  have hlo : loS (ruT r) = enS r.i r.d := by
    unfold loS
    rw [hd, ruT_list]
    exact ext_lo _ _
  have hhi : hiS (ruT r) = enS r.j r.e := by
    unfold hiS
    rw [hd, ruT_list, show enL r.i r.d ++ 46 :: 46 :: enL r.j r.e = (enL r.i r.d ++ [46, 46]) ++ enL r.j r.e by simp]
    exact ext_hi _ _ _ (by simp)
  have hrun : prRun (ruT r) = r := by
    unfold prRun
    rw [hlo, hhi, b1, b2, c1, c2]
  have hE : prRE (ruT r) = 0 := by
    unfold prRE
    rw [if_pos (by rw [hd, hs]; omega), hlo, hhi, b3, c3, hrun, h]
    simp
  exact ⟨by rw [hs]; omega, by unfold prR; rw [if_pos hE, hrun], hE⟩

set_option maxRecDepth 100000 in
set_option maxHeartbeats 8000000 in
theorem text_law (i d j e : Int) (w W : World) (KL : Hid (∀ B X, Ok B X → Calls Tryz.prog 23 #[] X fun x w' => x = .returned (.bool true) ∧ Ok B w')) (hr : Ru.In ⟨i, d, j, e⟩) (ho : Ok w W) :
    Calls Tryz.prog 33 #[U4 i d j e] W fun e w' => e = .returned (.bool true) ∧ Ok w w' := by
  have KT : Hid (∀ B X, Ok B X → Calls Tryz.prog 63 #[U4 i d j e] X fun x w' => x = .returned (.tuple #[.string (teS ⟨i, d, j, e⟩), .int .i64 (ruE ⟨i, d, j, e⟩)]) ∧ Ok B w') := fun B X hX => c_eq hX rfl (run_text ⟨i, d, j, e⟩ X hX.1 hr)
  have KC : Hid (∀ B X, Ok B X → Calls Tryz.prog 7 #[U4 i d j e] X fun x w' => x = .returned (.int .i64 (ruE ⟨i, d, j, e⟩)) ∧ Ok B w') := fun B X hX => c_eq hX rfl (chkU_any i d j e X)
  by_cases hE : ruE ⟨i, d, j, e⟩ = 0
  · obtain ⟨hs, b1, b2⟩ := back_run hr hE
    have hT : teS ⟨i, d, j, e⟩ = ruT ⟨i, d, j, e⟩ := if_pos hE
    rw [hE, hT] at KT
    rw [hE] at KC
    have KP : Hid (∀ B X, Ok B X → Calls Tryz.prog 31 #[.string (ruT ⟨i, d, j, e⟩)] X fun x w' => x = .returned (.tuple #[U4 i d j e, .int .i64 0]) ∧ Ok B w') := fun B X hX => c_eq hX (by rw [b1, b2]) (run_parse _ X hX.1 (Nat.le_trans hs (by decide)))
    have KX : Hid (∀ B X, Ok B X → Calls Tryz.prog 64 #[U4 i d j e] X fun x w' => x = .returned (.string (ruT ⟨i, d, j, e⟩)) ∧ Ok B w') := fun B X hX => c_eq hX rfl (texU_any i d j e X hr.2.1 hr.2.2.2)
    have KG : Hid (∀ B X, Ok B X → Calls Tryz.prog 27 #[U4 i d j e, .int .i64 0, U4 i d j e, .int .i64 0] X fun x w' => x = .returned (.bool true) ∧ Ok B w') := fun B X hX => c_eq hX rfl (gives_ok i d j e X)
    clear hs b1 b2 hT hE
    generalize ruT ⟨i, d, j, e⟩ = S at *
    have tS : (S.toList == S.toList) = true := by simp
    go_enter Tryz.func33, Tryz.ntmps33
    go_upto_region 1 with fail
    have hB := (Bs.new (show Bs W [] from trivial) i d j e)
    (try rw [size_al] at hB)
    have oo : Ok w (W.alloc (Obj.cells #[Value.int IntKind.i8 i, Value.int IntKind.i64 d, Value.int IntKind.i8 j, Value.int IntKind.i64 e] 26)) := ho.step (by go_grown)
    generalize (W.alloc (Obj.cells #[Value.int IntKind.i8 i, Value.int IntKind.i64 d, Value.int IntKind.i8 j, Value.int IntKind.i64 e] 26)) = W1 at *
    generalize W.heap.size = g1 at *
    clear ho
    have oc := Ok.refl oo.1
    obtain ⟨⟨bg1, lg1⟩, -⟩ := id hB
    obtain ⟨fg10, fg11, fg12, fg13⟩ := bg1.quad
    clear bg1 lg1
    go_upto_region 6 with (first
          | (go_at_call 63; ((with_reducible refine (KT.out _ _ oc).mono ?_); rintro e1 w' ⟨rfl, hk⟩; (try clear oc); have oc := hk; (try clear mg10 mg11 mg12 mg13); obtain ⟨⟨bg1, lg1⟩, -⟩ := hB.below hk.2; obtain ⟨mg10, mg11, mg12, mg13⟩ := bg1.quad; clear bg1 lg1; clear hk))
          | (go_at_call 7; ((with_reducible refine (KC.out _ _ oc).mono ?_); rintro e1 w' ⟨rfl, hk⟩; (try clear oc); have oc := hk; (try clear mg10 mg11 mg12 mg13); obtain ⟨⟨bg1, lg1⟩, -⟩ := hB.below hk.2; obtain ⟨mg10, mg11, mg12, mg13⟩ := bg1.quad; clear bg1 lg1; clear hk))
          | (go_at_call 31; ((with_reducible refine (KP.out _ _ oc).mono ?_); rintro e1 w' ⟨rfl, hk⟩; (try clear oc); have oc := hk; (try clear mg10 mg11 mg12 mg13); obtain ⟨⟨bg1, lg1⟩, -⟩ := hB.below hk.2; obtain ⟨mg10, mg11, mg12, mg13⟩ := bg1.quad; clear bg1 lg1; clear hk)))
    have hB' := Bs.new (hB.below oc.2) i d j e
    have o' := (oo.step oc.2).step (run_new w' i d j e _ rfl).2.2
    clear hB oo oc fg10 fg11 fg12 fg13 KT KC KP
    (try clear mg10 mg11 mg12 mg13)
    generalize (w'.alloc (Obj.cells #[Value.int IntKind.i8 i, Value.int IntKind.i64 d, Value.int IntKind.i8 j, Value.int IntKind.i64 e] 26)) = W2 at *
    generalize w'.heap.size = g2 at *
    have hB := hB'
    have oo := o'
    clear hB' o'
    have oc := Ok.refl oo.1
    obtain ⟨⟨bg2, lg2⟩, ⟨bg1, lg1⟩, -⟩ := id hB
    obtain ⟨fg20, fg21, fg22, fg23⟩ := bg2.quad
    obtain ⟨fg10, fg11, fg12, fg13⟩ := bg1.quad
    clear bg2 lg2 bg1 lg1
    go_wp2_with (first
          | (go_at_call 64; ((with_reducible refine (KX.out _ _ oc).mono ?_); rintro e1 w' ⟨rfl, hk⟩; (try clear oc); have oc := hk; (try clear mg20 mg21 mg22 mg23 mg10 mg11 mg12 mg13); obtain ⟨⟨bg2, lg2⟩, ⟨bg1, lg1⟩, -⟩ := hB.below hk.2; obtain ⟨mg20, mg21, mg22, mg23⟩ := bg2.quad; obtain ⟨mg10, mg11, mg12, mg13⟩ := bg1.quad; clear bg2 lg2 bg1 lg1; clear hk))
          | (go_at_call 27; ((with_reducible refine (KG.out _ _ oc).mono ?_); rintro e1 w' ⟨rfl, hk⟩; (try clear oc); have oc := hk; (try clear mg20 mg21 mg22 mg23 mg10 mg11 mg12 mg13); obtain ⟨⟨bg2, lg2⟩, ⟨bg1, lg1⟩, -⟩ := hB.below hk.2; obtain ⟨mg20, mg21, mg22, mg23⟩ := bg2.quad; obtain ⟨mg10, mg11, mg12, mg13⟩ := bg1.quad; clear bg2 lg2 bg1 lg1; clear hk))
          | (go_at_call 23; ((with_reducible refine (KL.out _ _ oc).mono ?_); rintro e1 w' ⟨rfl, hk⟩; (try clear oc); have oc := hk; clear hk)))
    go_ret
    exact ⟨rfl, oo.step oc.2⟩
  · have hT : teS ⟨i, d, j, e⟩ = ⟨#[]⟩ := if_neg hE
    rw [hT] at KT
    generalize ruE ⟨i, d, j, e⟩ = n at *
    have hn : (n != 0) = true := by rw [bne_iff_ne]; exact hE
    have hn2 : (n == n) = true := by simp
    clear hT hE
    go_enter Tryz.func33, Tryz.ntmps33
    go_upto_region 1 with fail
    have hB := (Bs.new (show Bs W [] from trivial) i d j e)
    (try rw [size_al] at hB)
    have oo : Ok w (W.alloc (Obj.cells #[Value.int IntKind.i8 i, Value.int IntKind.i64 d, Value.int IntKind.i8 j, Value.int IntKind.i64 e] 26)) := ho.step (by go_grown)
    generalize (W.alloc (Obj.cells #[Value.int IntKind.i8 i, Value.int IntKind.i64 d, Value.int IntKind.i8 j, Value.int IntKind.i64 e] 26)) = W1 at *
    generalize W.heap.size = g1 at *
    clear ho
    have oc := Ok.refl oo.1
    obtain ⟨⟨bg1, lg1⟩, -⟩ := id hB
    obtain ⟨fg10, fg11, fg12, fg13⟩ := bg1.quad
    clear bg1 lg1
    go_wp2_with (first
          | (go_at_call 63; ((with_reducible refine (KT.out _ _ oc).mono ?_); rintro e1 w' ⟨rfl, hk⟩; (try clear oc); have oc := hk; (try clear mg10 mg11 mg12 mg13); obtain ⟨⟨bg1, lg1⟩, -⟩ := hB.below hk.2; obtain ⟨mg10, mg11, mg12, mg13⟩ := bg1.quad; clear bg1 lg1; clear hk))
          | (go_at_call 7; ((with_reducible refine (KC.out _ _ oc).mono ?_); rintro e1 w' ⟨rfl, hk⟩; (try clear oc); have oc := hk; (try clear mg10 mg11 mg12 mg13); obtain ⟨⟨bg1, lg1⟩, -⟩ := hB.below hk.2; obtain ⟨mg10, mg11, mg12, mg13⟩ := bg1.quad; clear bg1 lg1; clear hk))
          | (go_at_call 23; ((with_reducible refine (KL.out _ _ oc).mono ?_); rintro e1 w' ⟨rfl, hk⟩; (try clear oc); have oc := hk; clear hk)))
    go_ret
    exact ⟨rfl, oo.step oc.2⟩

set_option maxRecDepth 100000 in
set_option maxHeartbeats 8000000 in
theorem parse_law (s : ByteArray) (w W : World) (KL : Hid (∀ B X, Ok B X → Calls Tryz.prog 23 #[] X fun x w' => x = .returned (.bool true) ∧ Ok B w')) (_hs : s.size ≤ maxLen) (ho : Ok w W) :
    Calls Tryz.prog 5 #[.string s] W fun e w' => e = .returned (.bool true) ∧ Ok w w' := by
  by_cases hl : s.size ≤ 100
  · have KP : Hid (∀ B X, Ok B X → Calls Tryz.prog 31 #[.string s] X fun x w' => x = .returned (.tuple #[V4 (prR s), .int .i64 (prRE s)]) ∧ Ok B w') := fun B X hX => c_eq hX rfl (run_parse s X hX.1 (Nat.le_trans hl (by decide)))
    have KR : Hid (∀ B X, Ok B X → Calls Tryz.prog 32 #[.string s] X fun x w' => x = .returned (.tuple #[V4 (prR s), .int .i64 (prRE s)]) ∧ Ok B w') := fun B X hX => c_eq hX rfl (parU_any s X hl)
    have hlI : (s.size : Int) ≤ 100 := by omega
    by_cases hE : prRE s = 0
    · rw [hE] at KP KR
      generalize prR s = R at *
      obtain ⟨a, b, c, f⟩ := R
      have KG : Hid (∀ B X, Ok B X → Calls Tryz.prog 27 #[U4 a b c f, .int .i64 0, U4 a b c f, .int .i64 0] X fun x w' => x = .returned (.bool true) ∧ Ok B w') := fun B X hX => c_eq hX rfl (gives_ok a b c f X)
      clear hE hl
      go_enter Tryz.func5, Tryz.ntmps5
      go_upto_region 3 with fail
      have oo := ho
      have hB : Bs W [] := trivial
      clear ho
      have oc := Ok.refl oo.1
      go_upto_region 4 with (go_at_call 31; ((with_reducible refine (KP.out _ _ oc).mono ?_); rintro e1 w' ⟨rfl, hk⟩; (try clear oc); have oc := hk; clear hk))
      have hB' := Bs.new (hB.below oc.2) a b c f
      have o' := (oo.step oc.2).step (run_new w' a b c f _ rfl).2.2
      clear hB oo oc  KP
      skip
      generalize (w'.alloc (Obj.cells #[Value.int IntKind.i8 a, Value.int IntKind.i64 b, Value.int IntKind.i8 c, Value.int IntKind.i64 f] 26)) = W1 at *
      generalize w'.heap.size = g1 at *
      have hB := hB'
      have oo := o'
      clear hB' o'
      have oc := Ok.refl oo.1
      obtain ⟨⟨bg1, lg1⟩, -⟩ := id hB
      obtain ⟨fg10, fg11, fg12, fg13⟩ := bg1.quad
      clear bg1 lg1
      go_upto_region 5 with (go_at_call 32; ((with_reducible refine (KR.out _ _ oc).mono ?_); rintro e1 w' ⟨rfl, hk⟩; (try clear oc); have oc := hk; (try clear mg10 mg11 mg12 mg13); obtain ⟨⟨bg1, lg1⟩, -⟩ := hB.below hk.2; obtain ⟨mg10, mg11, mg12, mg13⟩ := bg1.quad; clear bg1 lg1; clear hk))
      have hB' := Bs.new (hB.below oc.2) a b c f
      have o' := (oo.step oc.2).step (run_new w' a b c f _ rfl).2.2
      clear hB oo oc fg10 fg11 fg12 fg13 KR
      (try clear mg10 mg11 mg12 mg13)
      generalize (w'.alloc (Obj.cells #[Value.int IntKind.i8 a, Value.int IntKind.i64 b, Value.int IntKind.i8 c, Value.int IntKind.i64 f] 26)) = W2 at *
      generalize w'.heap.size = g2 at *
      have hB := hB'
      have oo := o'
      clear hB' o'
      have oc := Ok.refl oo.1
      obtain ⟨⟨bg2, lg2⟩, ⟨bg1, lg1⟩, -⟩ := id hB
      obtain ⟨fg20, fg21, fg22, fg23⟩ := bg2.quad
      obtain ⟨fg10, fg11, fg12, fg13⟩ := bg1.quad
      clear bg2 lg2 bg1 lg1
      go_wp2_with (first
            | (go_at_call 27; ((with_reducible refine (KG.out _ _ oc).mono ?_); rintro e1 w' ⟨rfl, hk⟩; (try clear oc); have oc := hk; (try clear mg20 mg21 mg22 mg23 mg10 mg11 mg12 mg13); obtain ⟨⟨bg2, lg2⟩, ⟨bg1, lg1⟩, -⟩ := hB.below hk.2; obtain ⟨mg20, mg21, mg22, mg23⟩ := bg2.quad; obtain ⟨mg10, mg11, mg12, mg13⟩ := bg1.quad; clear bg2 lg2 bg1 lg1; clear hk))
            | (go_at_call 23; ((with_reducible refine (KL.out _ _ oc).mono ?_); rintro e1 w' ⟨rfl, hk⟩; (try clear oc); have oc := hk; clear hk)))
      go_ret
      exact ⟨rfl, oo.step oc.2⟩
    · have h0 : prR s = ⟨0, 0, 0, 0⟩ := if_neg hE
      rw [h0] at KP KR
      generalize prRE s = n at *
      have KG : Hid (∀ B X, Ok B X → Calls Tryz.prog 27 #[U4 0 0 0 0, .int .i64 n, U4 0 0 0 0, .int .i64 n] X fun x w' => x = .returned (.bool true) ∧ Ok B w') := fun B X hX => c_eq hX rfl (gives_bad 0 0 0 0 n X hE)
      clear h0 hl
      go_enter Tryz.func5, Tryz.ntmps5
      go_upto_region 3 with fail
      have oo := ho
      have hB : Bs W [] := trivial
      clear ho
      have oc := Ok.refl oo.1
      go_upto_region 4 with (go_at_call 31; ((with_reducible refine (KP.out _ _ oc).mono ?_); rintro e1 w' ⟨rfl, hk⟩; (try clear oc); have oc := hk; clear hk))
      have hB' := Bs.new (hB.below oc.2) 0 0 0 0
      have o' := (oo.step oc.2).step (run_new w' 0 0 0 0 _ rfl).2.2
      clear hB oo oc  KP
      skip
      generalize (w'.alloc (Obj.cells #[Value.int IntKind.i8 0, Value.int IntKind.i64 0, Value.int IntKind.i8 0, Value.int IntKind.i64 0] 26)) = W1 at *
      generalize w'.heap.size = g1 at *
      have hB := hB'
      have oo := o'
      clear hB' o'
      have oc := Ok.refl oo.1
      obtain ⟨⟨bg1, lg1⟩, -⟩ := id hB
      obtain ⟨fg10, fg11, fg12, fg13⟩ := bg1.quad
      clear bg1 lg1
      go_upto_region 5 with (go_at_call 32; ((with_reducible refine (KR.out _ _ oc).mono ?_); rintro e1 w' ⟨rfl, hk⟩; (try clear oc); have oc := hk; (try clear mg10 mg11 mg12 mg13); obtain ⟨⟨bg1, lg1⟩, -⟩ := hB.below hk.2; obtain ⟨mg10, mg11, mg12, mg13⟩ := bg1.quad; clear bg1 lg1; clear hk))
      have hB' := Bs.new (hB.below oc.2) 0 0 0 0
      have o' := (oo.step oc.2).step (run_new w' 0 0 0 0 _ rfl).2.2
      clear hB oo oc fg10 fg11 fg12 fg13 KR
      (try clear mg10 mg11 mg12 mg13)
      generalize (w'.alloc (Obj.cells #[Value.int IntKind.i8 0, Value.int IntKind.i64 0, Value.int IntKind.i8 0, Value.int IntKind.i64 0] 26)) = W2 at *
      generalize w'.heap.size = g2 at *
      have hB := hB'
      have oo := o'
      clear hB' o'
      have oc := Ok.refl oo.1
      obtain ⟨⟨bg2, lg2⟩, ⟨bg1, lg1⟩, -⟩ := id hB
      obtain ⟨fg20, fg21, fg22, fg23⟩ := bg2.quad
      obtain ⟨fg10, fg11, fg12, fg13⟩ := bg1.quad
      clear bg2 lg2 bg1 lg1
      go_wp2_with (first
            | (go_at_call 27; ((with_reducible refine (KG.out _ _ oc).mono ?_); rintro e1 w' ⟨rfl, hk⟩; (try clear oc); have oc := hk; (try clear mg20 mg21 mg22 mg23 mg10 mg11 mg12 mg13); obtain ⟨⟨bg2, lg2⟩, ⟨bg1, lg1⟩, -⟩ := hB.below hk.2; obtain ⟨mg20, mg21, mg22, mg23⟩ := bg2.quad; obtain ⟨mg10, mg11, mg12, mg13⟩ := bg1.quad; clear bg2 lg2 bg1 lg1; clear hk))
            | (go_at_call 23; ((with_reducible refine (KL.out _ _ oc).mono ?_); rintro e1 w' ⟨rfl, hk⟩; (try clear oc); have oc := hk; clear hk)))
      go_ret
      exact ⟨rfl, oo.step oc.2⟩
  · have hlI : 100 < (s.size : Int) := by omega
    clear hl
    go_enter Tryz.func5, Tryz.ntmps5
    have oo := ho
    have oc := Ok.refl ho.1
    go_wp2_with (go_at_call 23; ((with_reducible refine (KL.out _ _ oc).mono ?_); rintro e1 w' ⟨rfl, hk⟩; (try clear oc); have oc := hk; clear hk))
    go_ret
    exact ⟨rfl, oo.step oc.2⟩
end Go.Proofs.YtmbaohjekeiphaaGreatDoor.run9
