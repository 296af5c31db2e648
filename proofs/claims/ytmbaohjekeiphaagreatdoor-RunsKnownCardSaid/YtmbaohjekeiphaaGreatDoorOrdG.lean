/- Regions that draw their order: an operation whose answer is the same in whatever world that meets S, and which leaves a world that has grown from it and meets S, may be taken first: calls, too. No program is in it. -/
import Derived.Deep.RegionHeld3
namespace Go.Proofs.YtmbaohjekeiphaaGreatDoor
open Go
section
variable {P : Program} {ops : Array Oper} {Q : Exit → Act → World → Prop} {md : Region.Mode} {S : World → Prop} {T : World → World → Prop}

/-- Whatever order is picked from here on, and to whatever world that meets S this one grows ahead of each operation. -/
def wpAnyG (P : Program) (md : Region.Mode) (ops : Array Oper) (Q : Exit → Act → World → Prop) (S : World → Prop) (T : World → World → Prop) : Nat → Array Bool → Act → World → Prop
  | 0, listed, a, w => ∀ w1, S w1 → T w w1 → Region.ready md ops listed = [] ∧ Q .normal a w1
  | fuel + 1, listed, a, w => ∀ w1, S w1 → T w w1 → (Region.ready md ops listed = [] → Q .normal a w1) ∧
      ∀ i ∈ Region.ready md ops listed, wpOp P ops Q i (fun a' w' => S w' ∧ wpAnyG P md ops Q S T fuel (listed.setIfInBounds i true) a' w') a w1

theorem wpAnyG.grown (ht : ∀ x y z, T x y → T y z → T x z) {w w' : World} (h : T w w') : ∀ {fuel : Nat} {listed : Array Bool} {a : Act}, wpAnyG P md ops Q S T fuel listed a w → wpAnyG P md ops Q S T fuel listed a w'
  | 0, _, _, H => fun w1 hS h1 => H w1 hS (ht _ _ _ h h1)
  | _ + 1, _, _, H => fun w1 hS h1 => H w1 hS (ht _ _ _ h h1)

theorem wpAny_of_G (hr : ∀ x, T x x) : ∀ (fuel : Nat) (listed : Array Bool) (a : Act) (w : World), S w → wpAnyG P md ops Q S T fuel listed a w → wpAny P md ops Q fuel listed a w
  | 0, _, _, w, hS, H => H w hS (hr w)
  | fuel + 1, _, _, w, hS, H => ⟨(H w hS (hr w)).1, fun i hi => wpOp_mono (fun a' w' h => wpAny_of_G hr fuel _ a' w' h.1 h.2) ((H w hS (hr w)).2 i hi)⟩

/-- What an operation comes to: the value v, at once or out of a call, and a world that meets S and has grown. -/
def GivesG (P : Program) (S : World → Prop) (T : World → World → Prop) (v : Value) (w : World) : Result Next → Prop
  | .ok (.value u) w' => u = v ∧ S w' ∧ T w w'
  | .ok (.enter f args) w' => Calls P f args w' fun e w'' => e = .returned v ∧ S w'' ∧ T w w''
  | _ => False
def AnswersG (P : Program) (ops : Array Oper) (S : World → Prop) (T : World → World → Prop) (o : Oper) (v : Value) (a : Act) : Prop :=
  (Region.wanted o (yielded ops a.tmps) = true ∧ ∀ w, S w → GivesG P S T v w ((execOp a.eval o).run P w)) ∨
  (Region.wanted o (yielded ops a.tmps) = false ∧ v = undef)

theorem AnswersG.of_same {o : Oper} {v : Value} {a a' : Act} (hy : AnswersG P ops S T o v a) (he : execOp a'.eval o = execOp a.eval o)
    (hw : Region.wanted o (yielded ops a'.tmps) = Region.wanted o (yielded ops a.tmps)) : AnswersG P ops S T o v a' := by
  unfold AnswersG at *
  rw [he, hw]
  exact hy

theorem AnswersG.wpOp {i : Nat} {o : Oper} {v : Value} {a : Act} (hr : ∀ x, T x x) (hi : ops[i]? = some o) (hy : AnswersG P ops S T o v a)
    {K : Act → World → Prop} {w : World} (hS : S w) (h : ∀ w', S w' → T w w' → K (a.put o.dst v) w') : wpOp P ops Q i K a w := by
  unfold Go.wpOp
  simp only [hi]
  rcases hy with ⟨hw, hv⟩ | ⟨hw, rfl⟩
  · rw [if_pos hw]
    refine .inl ?_
    have hv := hv w hS
    unfold Oper.wp
    generalize (execOp a.eval o).run P w = r at *
    cases r with
    | halt x w' => exact hv.elim
    | ok n w' =>
      cases n with
      | value u =>
        obtain ⟨rfl, h1, h2⟩ := hv
        exact h w' h1 h2
      | enter f args =>
        refine Calls.mono hv ?_
        rintro e w'' ⟨rfl, h1, h2⟩
        exact h w'' h1 h2
      | _ => exact hv.elim
  · rw [if_neg (by rw [hw]; decide)]
    exact h w hS (hr w)

/-- An operation that is apart from another one comes to the same with that one's value there; and what is said of states that it can't tell apart is kept. -/
theorem wpOp_apartG {j : Nat} {oi oj : Oper} {v : Value} {Y : Act → Prop} (hj : ops[j]? = some oj) (hap : oi.apart ops oj = true)
    (hsj : ∀ cs b, oj.op ≠ .select cs b)
    (hQ : ∀ c a w, Q (.panic c) (a.put oi.dst v) w → Q (.panic c) a w) {K : Act → World → Prop} {a : Act} {w : World}
    (hYp : ∀ a, Y a → ∀ u, Y (a.put oj.dst u)) (hYd : ∀ a d, Y a → Y { a with defers := d :: a.defers })
    (hY : Y a) (h : wpOp P ops Q j K (a.put oi.dst v) w) :
    wpOp P ops Q j (fun a' w' => Y a' ∧ K (a'.put oi.dst v) w') a w := by
  obtain ⟨h1, h2, _⟩ := Oper.apart_spec hap
  have put : ∀ u w', K ((a.put oi.dst v).put oj.dst u) w' → Y (a.put oj.dst u) ∧ K ((a.put oj.dst u).put oi.dst v) w' := fun u w' hk =>
    ⟨hYp a hY u, by rw [← Act.put_comm a v u h2]; exact hk⟩
  unfold wpOp at h ⊢
  simp only [hj] at h ⊢
  rw [wanted_put oj a oi.dst v h1] at h
  by_cases hw : Region.wanted oj (yielded ops a.tmps) = true
  case neg =>
    rw [if_neg hw] at h ⊢
    exact put _ _ h
  rw [if_pos hw] at h ⊢
  rcases h with h | ⟨ha, hl⟩
  case inr =>
    refine .inr ⟨?_, hl⟩
    unfold Oper.asks at ha ⊢
    rwa [execOp_put oj hsj a oi.dst v h1] at ha
  refine .inl ?_
  unfold Oper.wp at h ⊢
  rw [execOp_put oj hsj a oi.dst v h1] at h
  generalize (execOp a.eval oj).run P w = r at h ⊢
  rcases r with ⟨n, w'⟩ | ⟨x, w'⟩
  · cases n
    case value u => exact put _ _ h
    case skip => exact put _ _ h
    case defer d =>
      refine ⟨hYp _ (hYd a d hY) _, ?_⟩
      have h' : K (({ (a.put oi.dst v) with defers := d :: (a.put oi.dst v).defers } : Act).put oj.dst undef) w' := h
      rw [Act.put_defers, Act.put_comm _ v undef h2] at h'
      exact h'
    case enter f args =>
      refine Calls.mono h ?_
      intro e w'' he
      cases e
      case returned u => exact put _ _ he
      case panicked c => exact hQ _ _ _ he
      case outgrown => exact he
    case row row args => exact Rows.mono h fun u w'' he => put u w'' he
    all_goals exact h
  · cases x
    case panic u => exact hQ _ _ _ h
    all_goals exact h

/-- Take number i first. -/
theorem wpAnyG_first (ht : ∀ x y z, T x y → T y z → T x z) (hrf : ∀ x, T x x) {i : Nat} {oi : Oper} {v : Value} (hi : ops[i]? = some oi)
    (hsel : ∀ (j : Nat) (o : Oper) cs b, ops[j]? = some o → o.op ≠ .select cs b)
    (hQ : ∀ c a w, Q (.panic c) (a.put oi.dst v) w → Q (.panic c) a w) :
    ∀ (fuel : Nat) (listed : Array Bool) (a : Act) (w : World),
      (∀ j oj, ops[j]? = some oj → j ≠ i → listed.getD j true = false → (∀ e ∈ oj.after, Region.binds md e = true → e.on ≠ i) → oi.apart ops oj = true) →
      i ∈ Region.ready md ops listed → AnswersG P ops S T oi v a →
      wpAnyG P md ops Q S T fuel (listed.setIfInBounds i true) (a.put oi.dst v) w → wpAnyG P md ops Q S T (fuel + 1) listed a w := by
  intro fuel
  induction fuel with
  | zero =>
    intro listed a w _ hr hy H w1 hS1 hT1
    refine ⟨fun h => (by rw [h] at hr; cases hr), fun j hj => ?_⟩
    by_cases hji : j = i
    · subst hji
      exact hy.wpOp hrf hi hS1 fun w' h1 h2 => ⟨h1, fun w2 hS2 hT2 => H w2 hS2 (ht _ _ _ (ht _ _ _ hT1 h2) hT2)⟩
    · have := ready_mono hj hji
      rw [(H w1 hS1 hT1).1] at this
      cases this
  | succ fuel ih =>
    intro listed a w hfree hr hy H w1 hS1 hT1
    refine ⟨fun h => (by rw [h] at hr; cases hr), fun j hj => ?_⟩
    by_cases hji : j = i
    · subst hji
      exact hy.wpOp hrf hi hS1 fun w' h1 h2 => ⟨h1, H.grown ht (ht _ _ _ hT1 h2)⟩
    · have h1 := (H w1 hS1 hT1).2 j (ready_mono hj hji)
      obtain ⟨hjun, oj, hoj, hall⟩ := mem_ready.1 hj
      have hnot : ∀ e ∈ oj.after, Region.binds md e = true → e.on ≠ i := fun e he hb heq => by
        have h1 := hall e he hb
        have h0 := (mem_ready.1 hr).1
        rw [heq] at h1
        rcases Nat.lt_or_ge i listed.size with h' | h'
        · simp [h'] at h0 h1; rw [h0] at h1; cases h1
        · simp [Array.getElem?_eq_none h'] at h1
      have hap := hfree j oj hoj hji hjun hnot
      obtain ⟨_, _, a3⟩ := Oper.apart_spec hap
      have h2 := wpOp_apartG (Y := AnswersG P ops S T oi v) hoj hap (fun cs b => hsel j oj cs b hoj) hQ
        (fun a hy u => hy.of_same (execOp_put oi (fun cs b => hsel i oi cs b hi) a oj.dst u a3) (wanted_put oi a oj.dst u a3))
        (fun a d hy => hy.of_same rfl rfl) hy h1
      have hfree' : ∀ k ok, ops[k]? = some ok → k ≠ i → (listed.setIfInBounds j true).getD k true = false →
          (∀ e ∈ ok.after, Region.binds md e = true → e.on ≠ i) → oi.apart ops ok = true := fun k ok hk hki hun hno => by
        refine hfree k ok hk hki ?_ hno
        by_cases hjk : j = k
        · subst hjk; exact hjun
        · rw [getD_set_ne true hjk] at hun; exact hun
      refine wpOp_mono (fun a' w' h3 => ⟨h3.2.1, ih (listed.setIfInBounds j true) a' w' hfree' (ready_mono hr (Ne.symm hji)) h3.1 ?_⟩) h2
      rw [Array.setIfInBounds_comm _ _ hji]
      exact h3.2.2

/-- The relation by which worlds grow. -/
structure GrowsG (T : World → World → Prop) : Prop where
  refl : ∀ x, T x x
  trans : ∀ x y z, T x y → T y z → T x z

theorem wp_region_G {id : Nat} {a : Act} {w : World} (hm : P.follows .mixedOrders = true) (hT : GrowsG T) (hS : S w.drew)
    (h : wpAnyG P .any ops Q S T ops.size (Array.replicate ops.size false) a w.drew) : (Code.region id ops true).wp P Q a w :=
  wp_region_any hm (wpAny_of_G hT.refl _ _ _ _ hS h)

/-- A call whose contract holds in every world that meets S is taken first. -/
theorem wpAnyG_call {i : Nat} {oi : Oper} {f : FuncId} {args : Array Value} {v : Value} {fuel : Nat} {listed : Array Bool} {a : Act} {w : World} (hT : GrowsG T) (hi : ops[i]? = some oi)
    (hs : Region.noSelect ops = true) (hf : Region.free md ops listed i = true) (hr : (Region.ready md ops listed).contains i = true)
    (hQ : ∀ c a w, Q (.panic c) (a.put oi.dst v) w → Q (.panic c) a w) (hw : Region.wanted oi (yielded ops a.tmps) = true)
    (he : ∀ w, (execOp a.eval oi).run P w = .ok (.enter f args) w)
    (hc : ∀ w, S w → Calls P f args w fun e w' => e = .returned v ∧ S w' ∧ T w w')
    (h : wpAnyG P md ops Q S T fuel (listed.setIfInBounds i true) (a.put oi.dst v) w) : wpAnyG P md ops Q S T (fuel + 1) listed a w :=
  wpAnyG_first hT.trans hT.refl hi (Region.noSelect_spec hs) hQ fuel listed a w (Region.free_spec hi hf) (by simpa using hr)
    (.inl ⟨hw, fun w hS => by rw [he w]; exact hc w hS⟩) h

/-- What yields its value in every world that meets S is taken first. -/
theorem wpAnyG_take {i : Nat} {oi : Oper} {v : Value} {fuel : Nat} {listed : Array Bool} {a : Act} {w : World} (hT : GrowsG T) (hi : ops[i]? = some oi)
    (hs : Region.noSelect ops = true) (hf : Region.free md ops listed i = true) (hr : (Region.ready md ops listed).contains i = true)
    (hQ : ∀ c a w, Q (.panic c) (a.put oi.dst v) w → Q (.panic c) a w) (hy : YieldsIf P ops S oi v a)
    (h : wpAnyG P md ops Q S T fuel (listed.setIfInBounds i true) (a.put oi.dst v) w) : wpAnyG P md ops Q S T (fuel + 1) listed a w :=
  wpAnyG_first hT.trans hT.refl hi (Region.noSelect_spec hs) hQ fuel listed a w (Region.free_spec hi hf) (by simpa using hr)
    (hy.imp (fun ⟨h1, h2⟩ => ⟨h1, fun w hS => by rw [h2 w hS]; exact ⟨rfl, hS, hT.refl w⟩⟩) id) h

/-- Each of the operations rs comes up next. -/
def AllReadyG (P : Program) (md : Region.Mode) (ops : Array Oper) (Q : Exit → Act → World → Prop) (S : World → Prop) (T : World → World → Prop) (fuel : Nat) (listed : Array Bool) (a : Act) (w : World) (rs : List Nat) : Prop :=
  ∀ i ∈ rs, wpOp P ops Q i (fun a' w' => S w' ∧ wpAnyG P md ops Q S T fuel (listed.setIfInBounds i true) a' w') a w
theorem AllReadyG.nil {fuel : Nat} {listed : Array Bool} {a : Act} {w : World} : AllReadyG P md ops Q S T fuel listed a w [] := fun _ h => by cases h
theorem AllReadyG.cons {fuel : Nat} {listed : Array Bool} {a : Act} {w : World} {i : Nat} {o : Oper} {rs : List Nat} (ho : ops[i]? = some o)
    (h : ∀ K' : Act → World → Prop, Shut (∀ a w, S w → (S w → wpAnyG P md ops Q S T fuel (listed.setIfInBounds i true) a w) → K' a w) → if Region.wanted o (yielded ops a.tmps) = true then Oper.wp P o a w K' Q else K' (a.put o.dst undef) w)
    (hs : AllReadyG P md ops Q S T fuel listed a w rs) : AllReadyG P md ops Q S T fuel listed a w (i :: rs) := fun j hj => by
  rcases List.mem_cons.1 hj with rfl | hj
  · exact wpOp_step ho (fun K' hK => h K' (fun a w hS hW => hK a w ⟨hS, hW hS⟩))
  · exact hs j hj
theorem wpAnyG_ready {rs : List Nat} {fuel : Nat} {listed : Array Bool} {a : Act} {w : World} (hr : Region.ready md ops listed = rs) (hne : rs ≠ [])
    (h : ∀ w1, S w1 → T w w1 → AllReadyG P md ops Q S T fuel listed a w1 rs) : wpAnyG P md ops Q S T (fuel + 1) listed a w :=
  fun w1 h1 h2 => ⟨fun h0 => absurd (hr ▸ h0) hne, hr ▸ h w1 h1 h2⟩
theorem wpAnyG_done {listed : Array Bool} {a : Act} {w : World} (hr : Region.ready md ops listed = []) (h : ∀ w1, S w1 → T w w1 → Q .normal a w1) :
    ∀ fuel, wpAnyG P md ops Q S T fuel listed a w
  | 0 => fun w1 h1 h2 => ⟨hr, h w1 h1 h2⟩
  | _ + 1 => fun w1 h1 h2 => ⟨fun _ => h w1 h1 h2, by rw [hr]; simp⟩
/-- The same in short, for texts that a program prints. -/
theorem gA {α : Type} (l : List α) (i : Nat) : l.toArray[i]? = l[i]? := List.getElem?_toArray
theorem gS {α : Type} (a : α) (l : List α) (i : Nat) : (a :: l)[i + 1]? = l[i]? := List.getElem?_cons_succ
theorem gZ {α : Type} (a : α) (l : List α) : (a :: l)[0]? = some a := List.getElem?_cons_zero
theorem pA {α : Type} (l : List α) (i : Nat) (v : α) : l.toArray.setIfInBounds i v = (l.set i v).toArray := List.setIfInBounds_toArray ..
theorem pZ {α : Type} (a v : α) (l : List α) : (a :: l).set 0 v = v :: l := List.set_cons_zero ..
theorem pS {α : Type} (a v : α) (l : List α) (i : Nat) : (a :: l).set (i + 1) v = a :: l.set i v := List.set_cons_succ ..
/-- Whether number i may be taken first. -/
def mayG (md : Region.Mode) (ops : Array Oper) (listed : Array Bool) (i : Nat) : Bool := Region.noSelect ops && (Region.free md ops listed i && (Region.ready md ops listed).contains i)
theorem cG {i : Nat} {o : Oper} {f : FuncId} {args : Array Value} {v : Value} {fuel : Nat} {listed : Array Bool} {a : Act} {w : World} (hT : GrowsG T) (hi : ops[i]? = some o)
    (hb : mayG md ops listed i = true) (hQ : ∀ c a w, Q (.panic c) (a.put o.dst v) w → Q (.panic c) a w) (hw : Region.wanted o (yielded ops a.tmps) = true)
    (he : ∀ w, (execOp a.eval o).run P w = .ok (.enter f args) w)
    (hc : ∀ w, S w → Calls P f args w fun e w' => e = .returned v ∧ S w' ∧ T w w')
    (h : wpAnyG P md ops Q S T fuel (listed.setIfInBounds i true) (a.put o.dst v) w) : wpAnyG P md ops Q S T (fuel + 1) listed a w := by
  unfold mayG at hb
  rw [Bool.and_eq_true, Bool.and_eq_true] at hb
  exact wpAnyG_call hT hi hb.1 hb.2.1 hb.2.2 hQ hw he hc h
theorem tG {i : Nat} {o : Oper} {v : Value} {fuel : Nat} {listed : Array Bool} {a : Act} {w : World} (hT : GrowsG T) (hi : ops[i]? = some o)
    (hb : mayG md ops listed i = true) (hQ : ∀ c a w, Q (.panic c) (a.put o.dst v) w → Q (.panic c) a w) (hy : YieldsIf P ops S o v a)
    (h : wpAnyG P md ops Q S T fuel (listed.setIfInBounds i true) (a.put o.dst v) w) : wpAnyG P md ops Q S T (fuel + 1) listed a w := by
  unfold mayG at hb
  rw [Bool.and_eq_true, Bool.and_eq_true] at hb
  exact wpAnyG_take hT hi hb.1 hb.2.1 hb.2.2 hQ hy h
end
end Go.Proofs.YtmbaohjekeiphaaGreatDoor
