/- The law MasksCommon: it returns true for every two masks and any number. -/
import Derived.Test.YthgnoeigjngniaaMNum
import Derived.Test.YthgnoeigjngniaaNRef
namespace Go.Proofs.Ythgnoeigjngniaa
open Go.RowKit

theorem bcell {W w1 : World} (hb : Below W.heap.size W w1) : (∀ b o, b < W.heap.size → w1.cell? ⟨b, o, none⟩ = W.cell? ⟨b, o, none⟩) ∧ (∀ b o, b < W.heap.size → w1.frozen? ⟨b, o, none⟩ = W.frozen? ⟨b, o, none⟩) :=
  ⟨fun b o h => hb.cell (p := ⟨b, o, none⟩) h, fun b o h => hb.frozen (p := ⟨b, o, none⟩) h⟩
theorem two_masks (w : World) (c0 c1 : Array Value) (W : World) (hW : W = (w.alloc (.cells c0 24)).alloc (.cells c1 24)) : BkM W w.heap.size c0 ∧ BkM W (w.heap.size + 1) c1 ∧ Below w.heap.size w W ∧ w.heap.size + 1 < W.heap.size := by
  subst hW
  refine ⟨(Below.heap_alloc _ _ _ (by simp)).trans (BkM.new w c0), ?_, ((Below.refl _ _).alloc (Nat.le_refl _) _).alloc (by simp) _, by simp⟩
  have := BkM.new (w.alloc (.cells c0 24)) c1
  simpa using this

theorem comS_symm (a b : ByteArray) : comS b a = comS a b := comL_symm _ _
theorem com_swap {a b : ByteArray} (ha : MaskS a) (hb : MaskS b) : comV b a = comV a b ∧ comE b a = comE a b := by
  have h1 := (chkS_ok a).2 ha
  have h2 := (chkS_ok b).2 hb
  unfold comV comE
  rw [comS_symm a b]
  simp only [h1, h2, true_and, ne_eq, not_true_eq_false, if_false]
  by_cases h : a.size = b.size
  · simp [h]
  · have h' : ¬ b.size = a.size := fun e => h e.symm
    simp [h, h']
theorem com_eq {a b : ByteArray} (ha : MaskS a) (hb : MaskS b) (hl : a.size = b.size) : comV a b = strO (comS a b) ∧ comE a b = (if (comS a b).isSome then 0 else 16) := by
  have h1 := (chkS_ok a).2 ha
  have h2 := (chkS_ok b).2 hb
  unfold comV comE
  simp [h1, h2, hl]
theorem com_ne {a b : ByteArray} (ha : MaskS a) (hb : MaskS b) (hl : ¬ a.size = b.size) : comV a b = ⟨#[]⟩ ∧ comE a b = 1 := by
  have h1 := (chkS_ok a).2 ha
  have h2 := (chkS_ok b).2 hb
  unfold comV comE
  simp [h1, h2, hl]
theorem com_mask {a b : ByteArray} {l : List UInt8} (ha : MaskS a) (hb : MaskS b) (hl : a.size = b.size) (h : comS a b = some l) : MaskS (strO (comS a b)) ∧ (strO (comS a b)).size = a.size ∧ comL (rv a) (rv b) = some (rv (strO (comS a b))) := by
  have hr := comS_rev a b hl
  rw [h] at hr ⊢
  have e : rv (strO (some l)) = l.reverse := by unfold rv strO; simp
  have hn : (strO (some l)).size = a.size := by
    rw [← rv_len, e, List.length_reverse]
    have := comL_len (a := a.data.toList) (b := b.data.toList) h (by rw [← size_l, ← size_l]; exact hl)
    rw [this, ← size_l]
  have hr' : comL (rv a) (rv b) = some (rv (strO (some l))) := by rw [hr, e]; rfl
  exact ⟨⟨comL_plcs hr' ha.plcs hb.plcs, by have := ha.pos; omega, by have := ha.le; omega⟩, hn, hr'⟩
theorem com_has {a b : ByteArray} {l : List UInt8} (ha : MaskS a) (hb : MaskS b) (hl : a.size = b.size) (h : comS a b = some l) (n : Int) : hasI (rv (strO (comS a b))) n = (hasI (rv a) n && hasI (rv b) n) :=
  comLI_has (com_mask ha hb hl h).2.2 (by rw [rv_len, rv_len]; exact hl) n
theorem com_hasnt {a b : ByteArray} (ha : MaskS a) (hb : MaskS b) (hl : a.size = b.size) (h : comS a b = none) (n : Int) : (hasI (rv a) n && hasI (rv b) n) = false := by
  have hr := comS_rev a b hl
  rw [h] at hr
  exact comLI_none hr ha.plcs hb.plcs n
/-- The digits of a number that has no more of them than the mask: what the mask and they have in common. -/
def padS (k m : Nat) : ByteArray := ⟨(dgR k m).reverse.toArray⟩
theorem padS_rv (k m : Nat) : rv (padS k m) = dgR k m := by unfold rv padS; simp
theorem padS_size (k m : Nat) : (padS k m).size = k := by rw [← rv_len, padS_rv, dgR_len]
theorem padS_mask {a : ByteArray} (ha : MaskS a) (m : Nat) : MaskS (padS a.size m) := ⟨by rw [padS_rv]; exact dgR_plcs _ _, by rw [padS_size]; exact ha.pos, by rw [padS_size]; exact ha.le⟩
theorem rv_inj {s t : ByteArray} (h : rv s = rv t) : s = t := by
  unfold rv at h
  have := congrArg List.reverse h
  rw [List.reverse_reverse, List.reverse_reverse] at this
  exact ByteArray.ext (Array.toList_inj.1 this)
theorem com_pad {a : ByteArray} (ha : MaskS a) (m : Nat) (hm : m < 10 ^ a.size) :
    (hasI (rv a) (m : Nat) = true → comV a (padS a.size m) = padS a.size m ∧ comE a (padS a.size m) = 0) ∧ (hasI (rv a) (m : Nat) = false → comV a (padS a.size m) ≠ padS a.size m) := by
  have hp := padS_mask ha m
  have hl : a.size = (padS a.size m).size := (padS_size _ _).symm
  obtain ⟨e1, e2⟩ := com_eq ha hp hl
  have hd := dgR_com (rv a) m (by rw [rv_len]; exact hm)
  rw [rv_len] at hd
  have hr := comS_rev a (padS a.size m) hl
  rw [padS_rv] at hr
  rw [e1, e2, hasI_nat]
  constructor
  · intro h
    rw [h] at hd
    have h1 : comL (rv a) (dgR a.size m) = some (dgR a.size m) := of_decide_eq_true hd.symm
    cases hc : comS a (padS a.size m) with
    | none => rw [hc] at hr; rw [hr] at h1; cases h1
    | some l =>
      obtain ⟨_, _, h4⟩ := com_mask ha hp hl hc
      rw [padS_rv, h1] at h4
      refine ⟨?_, by simp⟩
      rw [← hc]
      exact rv_inj (by rw [padS_rv]; exact (Option.some.inj h4).symm)
  · intro h he
    rw [h] at hd
    have h1 : ¬ comL (rv a) (dgR a.size m) = some (dgR a.size m) := of_decide_eq_false hd.symm
    cases hc : comS a (padS a.size m) with
    | none =>
      rw [hc] at he
      have h3 := congrArg ByteArray.size he
      rw [padS_size] at h3
      have h4 : (strO none).size = 0 := rfl
      have := ha.pos; omega
    | some l =>
      obtain ⟨_, _, h4⟩ := com_mask ha hp hl hc
      rw [he, padS_rv] at h4
      exact h1 h4

set_option maxRecDepth 100000 in
set_option maxHeartbeats 4000000 in
theorem common_law (v u : Value) (n : Int) (w W : World) (hv : BS W W.heap.size v) (hu : BS W W.heap.size u) (n0 : -9223372036854775808 ≤ n) (n1 : n ≤ 9223372036854775807) (h : Ok w W) :
    Calls Try.prog 5 #[.agg #[v], .agg #[u], .int .i64 n] W fun e w' => e = .returned (.bool true) ∧ Ok w w' := by
  obtain ⟨A1, m1, c1, rfl, -⟩ := id hv
  obtain ⟨A2, m2, c2, rfl, -⟩ := id hu
  go_enter Try.func5, Try.ntmps5
  go_upto_region 1 with fail
  obtain ⟨b0, b1, hb, hsz⟩ := two_masks W #[Value.slice A1 m1 c1] #[Value.slice A2 m2 c2] _ rfl
  have ho := h.step hb
  generalize ((W.alloc (Obj.cells #[Value.slice A1 m1 c1] 24)).alloc (Obj.cells #[Value.slice A2 m2 c2] 24)) = W1 at *
  generalize e1 : W.heap.size + 1 = g1 at *
  have l0 : W.heap.size < W1.heap.size := by omega
  have f0 := b0.cell 0
  have f1 := b1.cell 0
  simp at f0 f1
  have HO : Hid (∀ X, Below W1.heap.size W1 X → Calls Try.prog 8 #[.agg #[Value.slice A1 m1 c1]] X fun e w' => ∃ s, e = .returned (.string s) ∧ MaskS s ∧ Below X.heap.size X w' ∧ Below W1.heap.size W1 w') :=
    fun X hX => (of_mask _ X (((hv.below hb (Nat.le_refl _)).below hX (Nat.le_of_lt l0)).up (by have := hX.size; omega))).mono fun _ _ ⟨s, h1, h2, h3⟩ => ⟨s, h1, h2, h3, hX.trans (h3.mono hX.size)⟩
  have HP : Hid (∀ X, Below W1.heap.size W1 X → Calls Try.prog 8 #[.agg #[Value.slice A2 m2 c2]] X fun e w' => ∃ s, e = .returned (.string s) ∧ MaskS s ∧ Below X.heap.size X w' ∧ Below W1.heap.size W1 w') :=
    fun X hX => (of_mask _ X (((hu.below hb (Nat.le_refl _)).below hX (Nat.le_of_lt l0)).up (by have := hX.size; omega))).mono fun _ _ ⟨s, h1, h2, h3⟩ => ⟨s, h1, h2, h3, hX.trans (h3.mono hX.size)⟩
  clear hv hu b0 b1 hb e1 h
  go_cut [7, 8] (fun s7 s8 wx => ∃ s t, s7 = .string s ∧ s8 = .string t ∧ MaskS s ∧ MaskS t ∧ Ok w wx)
  case first =>
    go_region_held3 (fun w' => w'.cell? ⟨W.heap.size, 0, none⟩ = some (.slice A1 m1 c1) ∧ w'.cell? ⟨g1, 0, none⟩ = some (.slice A2 m2 c2)) (go_keep)
      (first
      | (go_at_call 8; ((with_reducible refine (HO.out _ (by go_grown)).mono ?_); rintro e x1 ⟨s, rfl, hs, hb1, hX1⟩; obtain ⟨hc1, hf1⟩ := bcell hb1; have k0 := (hX1.cell (p := ⟨W.heap.size, 0, none⟩) l0).trans f0; have k1 := (hX1.cell (p := ⟨g1, 0, none⟩) hsz).trans f1))
      | (go_at_call 8; ((with_reducible refine (HP.out _ (by go_grown)).mono ?_); rintro e x2 ⟨t, rfl, ht, hb2, hX2⟩; obtain ⟨hc2, hf2⟩ := bcell hb2; have k2 := (hX2.cell (p := ⟨W.heap.size, 0, none⟩) l0).trans f0; have k3 := (hX2.cell (p := ⟨g1, 0, none⟩) hsz).trans f1)))
    all_goals
      go_wp2_with fail
      go_meet
      first
        | exact ⟨s, t, rfl, rfl, hs, ht, ho.step hX2⟩
        | exact ⟨s, t, rfl, rfl, hs, ht, ho.step hX1⟩
  case rest =>
    obtain ⟨a, b, rfl, rfl, ha, hb, ho⟩ := hcut
    clear HO HP f0 f1 hsz l0
    obtain ⟨x1, x2⟩ := com_swap ha hb
    have KAB : Hid (∀ X y z, Ok w X → y = a → z = b → Calls Try.prog 28 #[.string y, .string z] X fun e w' => e = .returned (.tuple #[.string (comV a b), .int .i64 (comE a b)]) ∧ Ok w w') := fun X y z hX hy hz => by rw [hy, hz]; exact c_eq hX rfl (common_any a X b ha.max hb.max)
    have KBA : Hid (∀ X y z, Ok w X → y = b → z = a → Calls Try.prog 28 #[.string y, .string z] X fun e w' => e = .returned (.tuple #[.string (comV a b), .int .i64 (comE a b)]) ∧ Ok w w') := fun X y z hX hy hz => by rw [hy, hz]; exact c_eq hX (by rw [x1, x2]) (common_any b X a hb.max ha.max)
    clear x1 x2
    by_cases hl : a.size = b.size
    · obtain ⟨e1, e2⟩ := com_eq ha hb hl
      have RC : Hid (∀ X, Ok w X → Calls Try.prog 29 #[.string a, .string b] X fun e w' => e = .returned (.tuple #[.string (strO (comS a b)), .bool (comS a b).isSome]) ∧ Ok w w') := fun X hX => (comR_any a b X ha hb hl).mono fun _ _ ⟨h1, h2⟩ => ⟨h1, hX.step h2⟩
      have HA : Hid (∀ X y z, Ok w X → y = a → z = n → Calls Try.prog 19 #[.string y, .int .i64 z] X fun e w' => e = .returned (.bool (hasI (rv a) n)) ∧ Ok w w') := fun X y z hX hy hz => by rw [hy, hz]; exact c_has ha hX n n0 n1
      have HB : Hid (∀ X y z, Ok w X → y = b → z = n → Calls Try.prog 19 #[.string y, .int .i64 z] X fun e w' => e = .returned (.bool (hasI (rv b) n)) ∧ Ok w w') := fun X y z hX hy hz => by rw [hy, hz]; exact c_has hb hX n n0 n1
      have t1 : ((a.size : Int) != (b.size : Int)) = false := by rw [bne_eq_false_iff_eq]; omega
      rw [e1, e2] at KAB KBA
      cases hc : comS a b with
      | none =>
        have hno := com_hasnt ha hb hl hc n
        have e3 : strO (comS a b) = ⟨#[]⟩ := by rw [hc]; rfl
        have e4 : (if (comS a b).isSome then (0 : Int) else 16) = 16 := by rw [hc]; rfl
        have e5 : (comS a b).isSome = false := by rw [hc]; rfl
        rw [e3, e4] at KAB KBA
        rw [e3, e5] at RC
        clear e3 e4 e5
        generalize hasI (rv a) n = qa at *
        generalize hasI (rv b) n = qb at *
        clear e1 e2 hl ha hb hc
        have hq : qa = false ∨ (qa = true ∧ qb = false) := by cases qa <;> simp_all
        clear hno
        rcases hq with rfl | ⟨rfl, rfl⟩
        all_goals
          go_wp2_with (first
            | (go_at_call 28; refine (KAB.out _ _ _ (by assumption) (by exact rfl) (by exact rfl)).mono ?_; rintro e w' ⟨rfl, hk⟩)
            | (go_at_call 28; refine (KBA.out _ _ _ (by assumption) (by exact rfl) (by exact rfl)).mono ?_; rintro e w' ⟨rfl, hk⟩)
            | (go_at_call 29; refine (RC.out _ (by assumption)).mono ?_; rintro e w' ⟨rfl, hk⟩)
            | (go_at_call 19; refine (HA.out _ _ _ (by assumption) (by exact rfl) (by exact rfl)).mono ?_; rintro e w' ⟨rfl, hk⟩)
            | (go_at_call 19; refine (HB.out _ _ _ (by assumption) (by exact rfl) (by exact rfl)).mono ?_; rintro e w' ⟨rfl, hk⟩)
            | (go_at_call 23; refine (lives_t w _ (by assumption)).mono ?_; rintro e w' ⟨rfl, hk⟩))
          go_ret
          exact ⟨rfl, by assumption⟩
      | some l =>
        obtain ⟨hm, hsz2, -⟩ := com_mask ha hb hl hc
        have hhas := com_has ha hb hl hc n
        have HC : Hid (∀ X y z, Ok w X → y = strO (comS a b) → z = n → Calls Try.prog 19 #[.string y, .int .i64 z] X fun e w' => e = .returned (.bool (hasI (rv a) n && hasI (rv b) n)) ∧ Ok w w') := fun X y z hX hy hz => by rw [hy, hz, ← hhas]; exact c_has hm hX n n0 n1
        have e4 : (if (comS a b).isSome then (0 : Int) else 16) = 0 := by rw [hc]; rfl
        have e5 : (comS a b).isSome = true := by rw [hc]; rfl
        rw [e4] at KAB KBA
        rw [e5] at RC
        clear e4 e5
        have RO : Hid (∀ X, Ok w X → Calls Try.prog 31 #[.int .i64 n] X fun e w' => ∃ r, e = .returned r ∧ IsN w' r n ∧ Ok w w') := fun X hX => (of_any n X n0 n1).mono fun _ _ ⟨r, h1, h2, h3⟩ => ⟨r, h1, h2, hX.step h3⟩
        have RT : Hid (∀ X r, Ok w X → IsN X r n → Calls Try.prog 30 #[r] X fun e w' => e = .returned (.string ⟨(Lib.itoa n).toArray⟩) ∧ Ok w w') := fun X r hX hr => (textR_any r n X hr (by have := lim_small; omega)).mono fun _ _ ⟨h1, h2⟩ => ⟨h1, hX.step h2⟩
        have HPAD : Hid (0 ≤ n → (Lib.decDigits n.toNat).length ≤ a.size → (∀ X y z, Ok w X → y = a → z = padS a.size n.toNat → Calls Try.prog 28 #[.string y, .string z] X fun e w' => e = .returned (.tuple #[.string (comV a (padS a.size n.toNat)), .int .i64 (comE a (padS a.size n.toNat))]) ∧ Ok w w') ∧
            (hasI (rv a) n = true → comV a (padS a.size n.toNat) = padS a.size n.toNat ∧ comE a (padS a.size n.toNat) = 0) ∧ (hasI (rv a) n = false → comV a (padS a.size n.toNat) ≠ padS a.size n.toNat)) := fun h0 hlen => by
          have hp := padS_mask ha n.toNat
          have hcp := com_pad ha n.toNat (dec_lt _ _ hlen)
          rw [show ((n.toNat : Nat) : Int) = n by omega] at hcp
          exact ⟨fun X y z hX hy hz => by rw [hy, hz]; exact c_eq hX rfl (common_any a X _ ha.max hp.max), hcp⟩
        have h18 := ha.le
        have hpos := ha.pos
        generalize hqa : hasI (rv a) n = qa at *
        generalize hasI (rv b) n = qb at *
        generalize strO (comS a b) = cv at *
        clear e1 e2 hl ha hb hc hhas hm hsz2
        obtain ⟨D, hD⟩ : ∃ D : ByteArray, D = ⟨(Lib.itoa n).toArray⟩ := ⟨_, rfl⟩
        have HD := Lib.hid hD
        rw [← hD] at RT
        clear hD
        go_upto_region 13 with (first
            | (go_at_call 28; refine (KAB.out _ _ _ (by assumption) (by exact rfl) (by exact rfl)).mono ?_; rintro e w' ⟨rfl, hk⟩)
            | (go_at_call 28; refine (KBA.out _ _ _ (by assumption) (by exact rfl) (by exact rfl)).mono ?_; rintro e w' ⟨rfl, hk⟩)
            | (go_at_call 29; refine (RC.out _ (by assumption)).mono ?_; rintro e w' ⟨rfl, hk⟩)
            | (go_at_call 19; refine (HA.out _ _ _ (by assumption) (by exact rfl) (by exact rfl)).mono ?_; rintro e w' ⟨rfl, hk⟩)
            | (go_at_call 19; refine (HB.out _ _ _ (by assumption) (by exact rfl) (by exact rfl)).mono ?_; rintro e w' ⟨rfl, hk⟩)
            | (go_at_call 19; refine (HC.out _ _ _ (by assumption) (by exact rfl) (by exact rfl)).mono ?_; rintro e w' ⟨rfl, hk⟩))
        all_goals
          clear HB HC KAB KBA RC t1
          by_cases hn0 : n < 0
          · clear HPAD HA
            go_wp2_with (first
              | (go_at_call 31; refine (RO.out _ (by assumption)).mono ?_; rintro e w' ⟨r, rfl, hr, hk⟩)
              | (go_at_call 30; refine (RT.out _ _ (by assumption) (by assumption)).mono ?_; rintro e w' ⟨rfl, hk⟩)
              | (go_at_call 23; refine (lives_t w _ (by assumption)).mono ?_; rintro e w' ⟨rfl, hk⟩))
            go_ret
            exact ⟨rfl, by assumption⟩
          · by_cases hlen : a.size < D.size
            · have hl2 : (a.size : Int) < (D.size : Int) := by omega
              clear HPAD HA hlen
              go_wp2_with (first
                | (go_at_call 31; refine (RO.out _ (by assumption)).mono ?_; rintro e w' ⟨r, rfl, hr, hk⟩)
                | (go_at_call 30; refine (RT.out _ _ (by assumption) (by assumption)).mono ?_; rintro e w' ⟨rfl, hk⟩)
                | (go_at_call 23; refine (lives_t w _ (by assumption)).mono ?_; rintro e w' ⟨rfl, hk⟩))
              go_ret
              exact ⟨rfl, by assumption⟩
            · have hDl : D.data.toList = Lib.decDigits n.toNat := by
                rw [HD.out]
                show (Lib.itoa n).toArray.toList = _
                unfold Lib.itoa
                rw [if_neg hn0]
              have hDs : D.size = (Lib.decDigits n.toNat).length := by rw [size_l, hDl]
              obtain ⟨q1, q2, q3⟩ := HPAD.out (by omega) (by omega)
              have HPL := Lib.hid (dec_pad a.size n.toNat (by omega))
              have HPE : Hid ((padS a.size n.toNat).data.toList = (dgR a.size n.toNat).reverse) := by show _ = _; unfold padS; rfl
              have HDl := Lib.hid hDl
              have HDs := Lib.hid hDs
              generalize comV a (padS a.size n.toNat) = U at *
              generalize comE a (padS a.size n.toNat) = G at *
              generalize padS a.size n.toNat = P at *
              have Q1 := Lib.hid q1
              clear HPAD q1 hDl hDs
              have hl2 : ¬ (a.size : Int) < (D.size : Int) := by omega
              have hlen' : D.size ≤ a.size := by omega
              clear hlen
              go_wp2_with (first
                | (go_at_call 31; refine (RO.out _ (by assumption)).mono ?_; rintro e w' ⟨r, rfl, hr, hk⟩)
                | (go_at_call 30; refine (RT.out _ _ (by assumption) (by assumption)).mono ?_; rintro e w' ⟨rfl, hk⟩))
              go_loopw [15] (fun v wr => ∃ (j : Nat) (E : ByteArray), v = .string E ∧ E.size = j + D.size ∧ E.size ≤ a.size ∧ Hid (E.data.toList = List.replicate j 48 ++ D.data.toList) ∧ Ok w wr) (fun v _ => match v with | .string E => a.size - E.size | _ => 0)
              case atStart => exact ⟨0, D, rfl, by omega, hlen', by show _ = _; simp, by assumption⟩
              case round =>
                obtain ⟨j, E, rfl, hEs, hEa, hE, hok⟩ := hrel
                by_cases hlt : E.size < a.size
                · have hl3 : (E.size : Int) < (a.size : Int) := by omega
                  have hs1 : (⟨#[48]⟩ : ByteArray).size = 1 := rfl
                  have hs4 : ¬ 9223372036854775807 < 1 + E.size := by omega
                  have HE : Hid ((⟨#[48]⟩ ++ E : ByteArray).data.toList = List.replicate (j + 1) 48 ++ D.data.toList) := by
                    show _ = _
                    rw [List.replicate_succ, List.cons_append, ← hE.out]
                    simp
                  have HS : Hid ((⟨#[48]⟩ ++ E : ByteArray).size = 1 + E.size) := by show _ = _; rw [ByteArray.size_append, hs1]
                  clear hE hlt
                  go_wp2_with fail
                  go_roundw
                  case rel => exact ⟨j + 1, _, rfl, by rw [HS.out]; omega, by rw [HS.out]; omega, HE, by assumption⟩
                  case measure => show a.size - (⟨#[48]⟩ ++ E : ByteArray).size < a.size - E.size; rw [HS.out]; omega
                · have hEP : E = P := by
                    refine ByteArray.ext (Array.toList_inj.1 ?_)
                    rw [hE.out, HPE.out, ← HPL.out, HDl.out]
                    congr 2
                    rw [← HDs.out]; omega
                  have hl3 : ¬ (E.size : Int) < (a.size : Int) := by omega
                  clear hE hlt hEs hEa
                  subst hEP
                  cases qa
                  · have hUE : ¬ U.toList = E.toList := by
                      have := q3 rfl
                      rw [ByteArray.toList_eq, ByteArray.toList_eq]
                      exact fun h => this (ByteArray.ext (Array.toList_inj.1 h))
                    have hUE2 : (U.toList == E.toList) = false := by rw [beq_eq_false_iff_ne]; exact hUE
                    clear q2 q3
                    go_wp2_with (first
                      | (go_at_call 28; refine (Q1.out _ _ _ (by assumption) (by exact rfl) (by exact rfl)).mono ?_; rintro e w' ⟨rfl, hk⟩)
                      | (go_at_call 19; refine (HA.out _ _ _ (by assumption) (by exact rfl) (by exact rfl)).mono ?_; rintro e w' ⟨rfl, hk⟩)
                      | (go_at_call 23; refine (lives_t w _ (by assumption)).mono ?_; rintro e w' ⟨rfl, hk⟩))
                    all_goals
                      go_ret
                      exact ⟨rfl, by assumption⟩
                  · obtain ⟨rfl, rfl⟩ := q2 rfl
                    go_wp2_with (first
                      | (go_at_call 28; refine (Q1.out _ _ _ (by assumption) (by exact rfl) (by exact rfl)).mono ?_; rintro e w' ⟨rfl, hk⟩)
                      | (go_at_call 19; refine (HA.out _ _ _ (by assumption) (by exact rfl) (by exact rfl)).mono ?_; rintro e w' ⟨rfl, hk⟩)
                      | (go_at_call 23; refine (lives_t w _ (by assumption)).mono ?_; rintro e w' ⟨rfl, hk⟩))
                    all_goals
                      go_ret
                      exact ⟨rfl, by assumption⟩
    · obtain ⟨e1, e2⟩ := com_ne ha hb hl
      rw [e1, e2] at KAB KBA
      have t1 : ((a.size : Int) != (b.size : Int)) = true := by rw [bne_iff_ne]; omega
      clear e1 e2 hl ha hb
      go_wp2_with (first
        | (go_at_call 28; refine (KAB.out _ _ _ (by assumption) (by exact rfl) (by exact rfl)).mono ?_; rintro e w' ⟨rfl, hk⟩)
        | (go_at_call 28; refine (KBA.out _ _ _ (by assumption) (by exact rfl) (by exact rfl)).mono ?_; rintro e w' ⟨rfl, hk⟩)
        | (go_at_call 23; refine (lives_t w _ (by assumption)).mono ?_; rintro e w' ⟨rfl, hk⟩))
      go_ret
      exact ⟨rfl, by assumption⟩
end Go.Proofs.Ythgnoeigjngniaa
