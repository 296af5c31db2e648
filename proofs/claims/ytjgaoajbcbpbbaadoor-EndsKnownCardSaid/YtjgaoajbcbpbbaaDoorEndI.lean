/- The functions of package ends, for the landed code: Parse. -/
import Derived.Test.YtjgaoajbcbpbbaaDoorEndH
namespace Go.Proofs.YtjgaoajbcbpbbaaDoor
open Go.RowKit
open Go.ChangeMaps (setBlock)

theorem lt_of_heap {X : World} {r : Nat} {o : Obj} (h : X.heap[r]? = some o) : r < X.heap.size := by
  rcases Nat.lt_or_ge r X.heap.size with h' | h'
  · exact h'
  · simp [Array.getElem?_eq_none h'] at h
theorem setBlock_same {X : World} {r : Nat} {o o' : Obj} (h : X.heap[r]? = some o) : (setBlock X r o').heap[r]? = some o' := by
  have : r < X.heap.size := by
    rcases Nat.lt_or_ge r X.heap.size with h' | h'
    · exact h'
    · simp [Array.getElem?_eq_none h'] at h
  unfold setBlock; simp [this]
theorem setBlock_other {X : World} {r g : Nat} {o' : Obj} (h : r ≠ g) : (setBlock X r o').heap[g]? = X.heap[g]? := by
  unfold setBlock; simp [h]
theorem iterSeen_of {X : World} {r : Nat} {m : Option Nat} {a c : Nat} {seen : Array Nat} (h : X.heap[r]? = some (.mapIter m a seen c)) : X.iterSeen r = seen := by simp [World.iterSeen, h]

/-- Two texts, each with its end. -/
def Two (es : Array MapEntry) : Prop := ∃ k l : Int, ∃ s t : ByteArray, (k = -1 ∧ l = 1 ∧ s = minS ∧ t = infS ∨ k = 1 ∧ l = -1 ∧ s = infS ∧ t = minS) ∧ es = #[end8.ent k s 0, end8.ent l t 1]
theorem Two.mem {es : Array MapEntry} (h : Two es) {e : MapEntry} (he : e ∈ es.toList) : (e.key = E2 1 0 ∧ e.val = .string infS) ∨ (e.key = E2 (-1) 0 ∧ e.val = .string minS) := by
  obtain ⟨k, l, s, t, ⟨rfl, rfl, rfl, rfl⟩ | ⟨rfl, rfl, rfl, rfl⟩, rfl⟩ := h <;> (simp at he; rcases he with rfl | rfl)
  · exact .inr ⟨rfl, rfl⟩
  · exact .inl ⟨rfl, rfl⟩
  · exact .inl ⟨rfl, rfl⟩
  · exact .inr ⟨rfl, rfl⟩
theorem Two.born {es : Array MapEntry} (h : Two es) : ∀ e ∈ es.toList, e.born < 2 := by
  obtain ⟨k, l, s, t, -, rfl⟩ := h
  intro e he
  simp at he
  rcases he with rfl | rfl
  · exact Nat.zero_lt_two
  · exact Nat.one_lt_two
theorem Two.nodup {es : Array MapEntry} (h : Two es) : (es.toList.map (·.born)).Nodup := by
  obtain ⟨k, l, s, t, -, rfl⟩ := h
  show [0, 1].Nodup
  decide
theorem Two.has {es : Array MapEntry} (h : Two es) : (∃ e ∈ es.toList, e.val = .string infS) ∧ ∃ e ∈ es.toList, e.val = .string minS := by
  obtain ⟨k, l, s, t, ⟨rfl, rfl, rfl, rfl⟩ | ⟨rfl, rfl, rfl, rfl⟩, rfl⟩ := h
  · exact ⟨⟨end8.ent 1 infS 1, by simp, rfl⟩, ⟨end8.ent (-1) minS 0, by simp, rfl⟩⟩
  · exact ⟨⟨end8.ent 1 infS 0, by simp, rfl⟩, ⟨end8.ent (-1) minS 1, by simp, rfl⟩⟩
theorem one_val {es : Array MapEntry} (h : Two es) {x e : MapEntry} (hx : x ∈ es.toList) (he : e ∈ es.toList) (hb : x.born = e.born) : x.val = e.val := by
  obtain ⟨k, l, s, t, -, rfl⟩ := h
  simp at hx he
  rcases hx with rfl | rfl <;> rcases he with rfl | rfl
  · rfl
  · exact absurd hb Nat.zero_ne_one
  · exact absurd hb Nat.one_ne_zero
  · rfl
theorem two_of {X : World} {g : Nat} (h : end8.MapB X g) : ∃ es, Two es ∧ X.heap[g]? = some (.map es 2) := by
  obtain ⟨k, l, s, t, h1, h2⟩ := h
  exact ⟨_, ⟨k, l, s, t, h1, rfl⟩, h2⟩
theorem pr_other (s : ByteArray) (h1 : ¬ s = infS) (h2 : ¬ s = minS) : prI s = 0 ∧ prD s = iV s.data.toList ∧ prE s = iE s.data.toList := by
  unfold iV iE
  rcases prE_cases s with ⟨h, -⟩ | ⟨-, h, -⟩ | ⟨-, -, h3, q⟩ | ⟨-, -, h3, h4, q⟩ | ⟨-, -, h3, h4, q⟩
  · exact absurd h h1
  · exact absurd h h2
  · rw [h3, q.1, q.2.1, q.2.2]; exact ⟨rfl, rfl, rfl⟩
  · have := of_decide_eq_false h4
    rw [h3, q.1, q.2.1, q.2.2, if_pos rfl, if_pos rfl, fitV_out (by omega), fitE_out (by omega)]; exact ⟨rfl, rfl, rfl⟩
  · have := of_decide_eq_true h4
    rw [h3, q.1, q.2.1, q.2.2, if_pos rfl, if_pos rfl, fitV_in this.1 this.2, fitE_in this.1 this.2]; exact ⟨rfl, rfl, rfl⟩
theorem pr_inf (s : ByteArray) (h : s = infS) : prI s = 1 ∧ prD s = 0 ∧ prE s = 0 := by subst h; exact ⟨rfl, rfl, rfl⟩
theorem pr_min (s : ByteArray) (h : s = minS) : prI s = -1 ∧ prD s = 0 ∧ prE s = 0 := by
  subst h
  rcases prE_cases minS with ⟨h, -⟩ | ⟨-, -, q⟩ | ⟨-, h, -⟩ | ⟨-, h, -⟩ | ⟨-, h, -⟩
  · exact absurd h minS_not
  · exact q
  all_goals exact absurd rfl h

theorem below_setBlock {B r : Nat} {W X : World} {o : Obj} (h : Below B W X) (hr : B ≤ r) : Below B W (setBlock X r o) :=
  ⟨h.os, h.tape, h.output, by unfold setBlock; simpa using h.size, fun i hi => by rw [setBlock_other (by omega)]; exact h.block i hi⟩
theorem none_left {es : Array MapEntry} {seen : Array Nat} (h : (leftOf es seen).size = 0) : ∀ e ∈ es.toList, seen.contains e.born = true := by
  intro e he
  have h1 := Array.eq_empty_of_size_eq_zero h
  unfold leftOf at h1
  rw [Array.filter_eq_empty_iff] at h1
  have := h1 e (by simpa using he)
  simpa using this
theorem left_mem {es : Array MapEntry} {seen : Array Nat} {e : MapEntry} (h : e ∈ (leftOf es seen).toList) : e ∈ es.toList ∧ ¬ seen.contains e.born = true := by
  unfold leftOf at h
  simpa using h
theorem left_less {es : Array MapEntry} {seen : Array Nat} {e : MapEntry} (h : e ∈ (leftOf es seen).toList) : (leftOf es (seen.push e.born)).size < (leftOf es seen).size := by
  obtain ⟨h1, h2⟩ := left_mem h
  have := filter_lt (fun x : MapEntry => !seen.contains x.born) (fun x : MapEntry => !(seen.push e.born).contains x.born) (fun x hx => by simp at hx ⊢; exact hx.1) e (by simpa using h2) (by simp) es.toList h1
  have e1 : ∀ p : MapEntry → Bool, (es.filter p).size = (es.toList.filter p).length := fun p => by rw [← Array.toList_filter, Array.length_toList]
  unfold leftOf
  rw [e1, e1]
  exact this
set_option maxRecDepth 100000 in
theorem kparse_any (s : ByteArray) (w : World) (hs : StartI w) (hl : s.size ≤ 140737488355328) : Calls Tryd.prog 22 #[.string s] w fun x w' => x = .returned (.tuple #[E2 (prI s) (prD s), .int .i64 (prE s)]) ∧ Below w.heap.size w w' := by
  obtain ⟨a, b, c, ha, hb, hc⟩ : ∃ a b c, prI s = a ∧ prD s = b ∧ prE s = c := ⟨_, _, _, rfl, rfl, rfl⟩
  have HQ1 := Lib.hid (pr_inf s)
  have HQ2 := Lib.hid (pr_min s)
  have HQ3 := Lib.hid (pr_other s)
  rw [ha, hb, hc] at HQ1 HQ2 HQ3
  rw [ha, hb, hc]
  clear ha hb hc
  obtain ⟨p, q, hp, hq⟩ : ∃ p q, iV s.data.toList = p ∧ iE s.data.toList = q := ⟨_, _, rfl, rfl⟩
  have HP : Hid (∀ W1, Below w.heap.size w W1 → ∀ X, Below W1.heap.size W1 X → Calls Tryd.prog 33 #[.string s] X fun x w' => x = .returned (.tuple #[.int .i64 (iV s.data.toList), .int .i64 (iE s.data.toList)]) ∧ Below W1.heap.size W1 w') :=
    Lib.hid fun W1 h1 X h => (iparse_any s X (hs.below (h1.trans (h.mono h1.size))) (by omega)).mono fun _ _ ⟨q1, q2⟩ => ⟨q1, h.trans (q2.mono h.size)⟩
  rw [hp, hq] at HP HQ3
  clear hs hl hp hq
  go_enter Tryd.func22, Tryd.ntmps22
  go_upto_region 1 with fail
  obtain ⟨hK, hlt, hbl⟩ := end_new w 0 0 _ rfl
  generalize (w.alloc (Obj.cells #[Value.int IntKind.i8 0, Value.int IntKind.i64 0] 24)) = W1 at *
  have HN := Lib.hid (fun X h => kinfs_any W1 X h)
  have HP2 := Lib.hid (HP.out W1 hbl)
  clear HP
  go_wp2_with (go_at_call 31; ((with_reducible refine (HN.out _ (Below.refl _ _)).mono ?_); rintro z w2 ⟨⟨gm, rfl, hM⟩, hk⟩; obtain ⟨es, h2, hm⟩ := two_of hM; have hrg := run_range_map (P := Tryd.prog) w2 52 _ _ gm es 2 Tryd.underlying52 hm; clear hM))
  have hgr : gm < w2.heap.size := by
    rcases Nat.lt_or_ge gm w2.heap.size with h' | h'
    · exact h'
    · simp [Array.getElem?_eq_none h'] at hm
  have hB1 := hk.size
  have s1 := heap_alloc_new w2 (.mapIter (some gm) 2 #[] 2)
  have s2 := (heap_alloc_old w2 (.mapIter (some gm) 2 #[] 2) hgr).trans hm
  have s3 : Below W1.heap.size W1 (w2.alloc (.mapIter (some gm) 2 #[] 2)) := hk.trans (by go_grown)
  clear hrg hm hk HN
  generalize w2.alloc (.mapIter (some gm) 2 #[] 2) = W3 at *
  generalize w2.heap.size = gr at *
  go_loopw [] (fun wr => ∃ seen, wr.heap[gr]? = some (.mapIter (some gm) 2 seen 2) ∧ wr.heap[gm]? = some (.map es 2) ∧ Below W1.heap.size W1 wr ∧ Hid (∀ e ∈ es.toList, seen.contains e.born = true → ¬ e.val = .string s)) (fun wr => (leftOf es (wr.iterSeen gr)).size)
  case atStart => exact ⟨#[], s1, s2, s3, Lib.hid (fun e _ h => by simp at h)⟩
  case round =>
    obtain ⟨seen, hr, hm, hX, hno⟩ := hrel
    clear s1 s2 s3
    have law := run_next_at (P := Tryd.prog) wr 0 gr gm 2 2 seen es 2 hr hm h2.born (Nat.le_refl _)
    rcases law with ⟨h0, hrun⟩ | ⟨e, he, w5, hw5, hrun⟩
    · have hall := none_left h0
      obtain ⟨⟨e1, i1, v1⟩, ⟨e2, i2, v2⟩⟩ := h2.has
      have ne1 : ¬ s = infS := fun h => hno.out e1 i1 (hall e1 i1) (by rw [v1, h])
      have ne2 : ¬ s = minS := fun h => hno.out e2 i2 (hall e2 i2) (by rw [v2, h])
      obtain ⟨r1, r2, r3⟩ := HQ3.out ne1 ne2
      subst r1; subst r2; subst r3
      clear ne1 ne2 hno hall e1 i1 v1 e2 i2 v2 h0 HQ1 HQ2 HQ3 h2 hm hr
      have HO := Lib.hid (fun X (h : Below W1.heap.size W1 X) => callB (kof_any b) h)
      have hnx : ∀ ty, (Instr.next (.pointer (some ⟨gr, 0, none⟩)) false ty).run Tryd.prog wr = _ := fun _ => hrun
      clear hrun
      go_wp2_with (first
        | (go_at_call 33; ((with_reducible refine (HP2.out _ hX).mono ?_); rintro z w4 ⟨rfl, hk⟩; clear hX; have hX := hk; clear hk))
        | (go_at_call 20; ((with_reducible refine (HO.out _ hX).mono ?_); rintro z w4 ⟨rfl, hk⟩; clear hX; have HM := Lib.hid (hK.below hlt hk); obtain ⟨u0, u1⟩ := HM.out.duo; have z0 := HM.out.frozen 0; have z1 := HM.out.frozen 1; have HB := Lib.hid (hbl.trans (hk.mono (Nat.le_of_lt hlt))); clear hk)))
      exact bodyPost_ret (res_end2 rfl rfl rfl (HM.out.store 0 b).duo) rfl ⟨rfl, set2_below HB.out (by omega) 0 b⟩
    · obtain ⟨hmem, hns⟩ := left_mem he
      have hless := left_less he
      have hrw : w5.heap = wr.heap := by rcases hw5 with rfl | rfl <;> rfl
      have h5 : Below W1.heap.size W1 w5 := by rcases hw5 with rfl | rfl <;> exact ⟨hX.os, hX.tape, hX.output, hX.size, hX.block⟩
      have hm5 : w5.heap[gm]? = some (.map es 2) := by rw [hrw]; exact hm
      have yr := setBlock_same (X := w5) (r := gr) (o' := .mapIter (some gm) 2 (seen.push e.born) 2) (by rw [hrw]; exact hr)
      have ym := (setBlock_other (X := w5) (r := gr) (g := gm) (o' := .mapIter (some gm) 2 (seen.push e.born) 2) (by omega)).trans hm5
      have yX := below_setBlock (o := .mapIter (some gm) 2 (seen.push e.born) 2) h5 hB1
      generalize setBlock w5 gr (.mapIter (some gm) 2 (seen.push e.born) 2) = Y at *
      have hen := run_entry_at (P := Tryd.prog) Y gr gm 2 seen es 2 e yr ym hmem h2.nodup
      have hms : (leftOf es (wr.iterSeen gr)).size = (leftOf es seen).size := by rw [iterSeen_of hr]
      clear hrw h5 hw5 hX hm5
      rcases h2.mem hmem with ⟨hk1, hv1⟩ | ⟨hk1, hv1⟩
      · have hv2 : e.val = .string ⟨#[105, 110, 102]⟩ := hv1
        rw [hk1, hv2] at hrun hen
        clear hv2
        have zX : Below W1.heap.size W1 (Y.alloc (.cells #[.int .i8 1, .int .i64 0] 24)) := yX.trans ((show Below Y.heap.size Y (Y.alloc (.cells #[.int .i8 1, .int .i64 0] 24)) from by go_grown).mono yX.size)
        have HM := Lib.hid (hK.below hlt zX)
        obtain ⟨u0, u1⟩ := HM.out.duo
        have z0 := HM.out.frozen 0
        have z1 := HM.out.frozen 1
        have zr := (heap_alloc_old Y (.cells #[.int .i8 1, .int .i64 0] 24) (lt_of_heap yr)).trans yr
        have zm := (heap_alloc_old Y (.cells #[.int .i8 1, .int .i64 0] 24) (lt_of_heap ym)).trans ym
        have ZX := Lib.hid zX
        have ZR := Lib.hid zr
        have ZM := Lib.hid zm
        have hnx : ∀ ty, (Instr.next (.pointer (some ⟨gr, 0, none⟩)) false ty).run Tryd.prog wr = _ := fun _ => hrun
        clear hrun zX zr zm yX hm yr ym
        by_cases hsx : s = infS
        · have hq := str_is (l := [105, 110, 102]) hsx
          obtain ⟨r1, r2, r3⟩ := HQ1.out hsx
          subst r1; subst r2; subst r3
          clear hno he hmem hk1 HP2 hv1 hsx HQ1 HQ2 HQ3 hr ZR ZM hless hms hns
          go_wp2
          exact bodyPost_ret (res_end2 rfl rfl rfl (HM.out.store 1 0).duo) rfl ⟨rfl, set2_below (hbl.trans (ZX.out.mono (Nat.le_of_lt hlt))) (by omega) 1 0⟩
        · have hq := str_not (l := [105, 110, 102]) hsx
          have HV := Lib.hid hv1
          have HE := Lib.hid hmem
          have HL := Lib.hid hless
          have HS := Lib.hid hms
          clear hv1 he hmem hk1 hless hms hns hr
          go_wp2
          go_round
          case rel => exact ⟨seen.push e.born, ZR.out, ZM.out, ZX.out, Lib.hid (fun x hx hc hv => by
            rcases (by simpa using hc : x.born ∈ seen ∨ x.born = e.born) with h | h
            · exact hno.out x hx (by simpa using h) hv
            · rw [one_val h2 hx HE.out h, HV.out] at hv
              exact hsx (Value.string.inj hv).symm)⟩
          case measure =>
            show (leftOf es (World.iterSeen _ gr)).size < _
            rw [iterSeen_of ZR.out, HS.out]
            exact HL.out
      · have hv2 : e.val = .string ⟨#[45, 105, 110, 102]⟩ := hv1
        rw [hk1, hv2] at hrun hen
        clear hv2
        have zX : Below W1.heap.size W1 (Y.alloc (.cells #[.int .i8 (-1), .int .i64 0] 24)) := yX.trans ((show Below Y.heap.size Y (Y.alloc (.cells #[.int .i8 (-1), .int .i64 0] 24)) from by go_grown).mono yX.size)
        have HM := Lib.hid (hK.below hlt zX)
        obtain ⟨u0, u1⟩ := HM.out.duo
        have z0 := HM.out.frozen 0
        have z1 := HM.out.frozen 1
        have zr := (heap_alloc_old Y (.cells #[.int .i8 (-1), .int .i64 0] 24) (lt_of_heap yr)).trans yr
        have zm := (heap_alloc_old Y (.cells #[.int .i8 (-1), .int .i64 0] 24) (lt_of_heap ym)).trans ym
        have ZX := Lib.hid zX
        have ZR := Lib.hid zr
        have ZM := Lib.hid zm
        have hnx : ∀ ty, (Instr.next (.pointer (some ⟨gr, 0, none⟩)) false ty).run Tryd.prog wr = _ := fun _ => hrun
        clear hrun zX zr zm yX hm yr ym
        by_cases hsx : s = minS
        · have hq := str_is (l := [45, 105, 110, 102]) hsx
          obtain ⟨r1, r2, r3⟩ := HQ2.out hsx
          subst r1; subst r2; subst r3
          clear hno he hmem hk1 HP2 hv1 hsx HQ1 HQ2 HQ3 hr ZR ZM hless hms hns
          go_wp2
          exact bodyPost_ret (res_end2 rfl rfl rfl (HM.out.store (-1) 0).duo) rfl ⟨rfl, set2_below (hbl.trans (ZX.out.mono (Nat.le_of_lt hlt))) (by omega) (-1) 0⟩
        · have hq := str_not (l := [45, 105, 110, 102]) hsx
          have HV := Lib.hid hv1
          have HE := Lib.hid hmem
          have HL := Lib.hid hless
          have HS := Lib.hid hms
          clear hv1 he hmem hk1 hless hms hns hr
          go_wp2
          go_round
          case rel => exact ⟨seen.push e.born, ZR.out, ZM.out, ZX.out, Lib.hid (fun x hx hc hv => by
            rcases (by simpa using hc : x.born ∈ seen ∨ x.born = e.born) with h | h
            · exact hno.out x hx (by simpa using h) hv
            · rw [one_val h2 hx HE.out h, HV.out] at hv
              exact hsx (Value.string.inj hv).symm)⟩
          case measure =>
            show (leftOf es (World.iterSeen _ gr)).size < _
            rw [iterSeen_of ZR.out, HS.out]
            exact HL.out
end Go.Proofs.YtjgaoajbcbpbbaaDoor
