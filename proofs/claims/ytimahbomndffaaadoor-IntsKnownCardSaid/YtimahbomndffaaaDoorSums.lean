/- The law IntsSums: it returns true for every input. -/
import Derived.Test.YtimahbomndffaaaDoorDivs
namespace Go.Proofs.YtimahbomndffaaaDoor
open Go.RowKit

/-- What the walk carries: two blocks behind w, and w itself untouched. -/
def Kp (w : World) (c0 c1 : Array Value) (X : World) : Prop := Bk X w.heap.size c0 ∧ Bk X (w.heap.size + 1) c1 ∧ Below w.heap.size w X ∧ w.heap.size + 1 < X.heap.size
theorem Kp.step {w X Y : World} {c0 c1 : Array Value} (h : Kp w c0 c1 X) (hb : Below X.heap.size X Y) : Kp w c0 c1 Y :=
  ⟨h.1.below hb h.1.lt, h.2.1.below hb h.2.1.lt, h.2.2.1.trans (hb.mono h.2.2.1.size), by have := hb.size; have := h.2.2.2; omega⟩

set_option maxRecDepth 100000 in
set_option maxHeartbeats 8000000 in
theorem sums_gen (a b S E D F P G : Int) (w W : World) (ha : -9223372036854775808 ≤ a) (ha' : a ≤ 9223372036854775807) (hb : -9223372036854775808 ≤ b) (hb' : b ≤ 9223372036854775807)
    (hS : Hid (fitV (a + b) = S)) (hE : Hid (fitE (a + b) = E)) (hD : Hid (fitV (a + -b) = D)) (hF : Hid (fitE (a + -b) = F)) (hP : Hid (fitV (a * b) = P)) (hG : Hid (fitE (a * b) = G)) (h : Ok w W)
    (HB : Hid ((E = 0 ∧ ∀ X, Calls Tryd.prog 11 #[.int .i64 S, .int .i64 b] X fun e w' => e = .returned (.tuple #[.int .i64 a, .int .i64 0]) ∧ Below X.heap.size X w') ∨
      (E = 15 ∧ ∃ v e', ∀ X, Calls Tryd.prog 11 #[.int .i64 S, .int .i64 b] X fun e w' => e = .returned (.tuple #[.int .i64 v, .int .i64 e']) ∧ Below X.heap.size X w'))) :
    Calls Tryd.prog 3 #[.int .i64 a, .int .i64 b] W fun e w' => e = .returned (.bool true) ∧ Ok w w' := by
  have hL := lim_big
  have hLa := lim_int ha ha'
  have hLb := lim_int hb hb'
  have hab := lim_mul (x := a) (y := b) (by omega) (by omega)
  have hLp : (a * b).natAbs < lim := by omega
  have hLs : (a + b).natAbs < lim := by omega
  have hLd : (a + -b).natAbs < lim := by omega
  have hLn : (-b).natAbs < lim := by omega
  go_enter Tryd.func3, Tryd.ntmps3
  go_wp2_with fail
  refine (c_of h a ha ha').mono ?_
  rintro e w1 ⟨u1, rfl, i1, d1, o1⟩
  obtain ⟨b1, A1, m1, c1, rfl⟩ := id i1.form
  go_wp2_with fail
  refine (c_of o1 b hb hb').mono ?_
  rintro e w2 ⟨u2, rfl, i2, d2, o2⟩
  obtain ⟨b2, A2, m2, c2, rfl⟩ := id i2.form
  have i3 := i1.below d2
  clear d1 d2 i1 o1
  go_wp2_with fail
  refine (add_any a b _ ha ha' hb hb').mono ?_
  rw [hS.out, hE.out]
  rintro e w3 ⟨rfl, n3⟩
  have k3 := Kp.step (two_new w2 #[.bool b1, .slice A1 m1 c1] #[.bool b2, .slice A2 m2 c2] _ rfl) n3
  clear n3
  go_wp2_with fail
  refine (sub_any a b _ ha ha' hb hb').mono ?_
  rw [Int.sub_eq_add_neg, hD.out, hF.out]
  rintro e w4 ⟨rfl, n4⟩
  have k4 := k3.step n4
  clear n4 k3
  go_wp2_with fail
  refine (mul_any a b _ ha ha' hb hb').mono ?_
  rw [hP.out, hG.out]
  rintro e w5 ⟨rfl, n5⟩
  have k5 := k4.step n5
  clear n5 k4
  go_wp2_with fail
  refine (add_any b a _ hb hb' ha ha').mono ?_
  rw [Int.add_comm b a, hS.out, hE.out]
  rintro e w6 ⟨rfl, n6⟩
  obtain ⟨p0, p1, hbK, hsz⟩ := k5.step n6
  clear n6 k5
  generalize e1 : w2.heap.size + 1 = g1 at *
  have l0 : w2.heap.size < w6.heap.size := by omega
  have l3 : w2.heap.size < g1 := by omega
  clear e1
  have o6 := o2.step hbK
  have j2 := i2.below hbK
  have j3 := i3.below hbK
  clear i2 i3 o2
  have HX1 : Hid (∀ X, Below w6.heap.size w6 X → Calls Tryd.prog 14 #[.agg #[.bool b1, .slice A1 m1 c1], .agg #[.bool b2, .slice A2 m2 c2]] X fun e w' => ∃ r, e = .returned r ∧ IsN w' r (a + b) ∧ Below X.heap.size X w' ∧ Below w6.heap.size w6 w') :=
    fun X hX => (addN_any _ _ a b X (j3.below hX) (j2.below hX) hLa hLb).mono fun _ _ ⟨r, h1, h2, h3⟩ => ⟨r, h1, h2, h3, hX.trans (h3.mono hX.size)⟩
  have HXN : Hid (∀ X, Below w6.heap.size w6 X → Calls Tryd.prog 15 #[.agg #[.bool b2, .slice A2 m2 c2]] X fun e w' => ∃ r, e = .returned r ∧ IsN w' r (-b) ∧ Below X.heap.size X w' ∧ Below w6.heap.size w6 w') :=
    fun X hX => (neg_any _ b X (j2.below hX) hLb).mono fun _ _ ⟨r, h1, h2, h3⟩ => ⟨r, h1, h2, h3, hX.trans (h3.mono hX.size)⟩
  have HX2 : Hid (∀ X z, Below w6.heap.size w6 X → IsN X z (-b) → Calls Tryd.prog 14 #[.agg #[.bool b1, .slice A1 m1 c1], z] X fun e w' => ∃ r, e = .returned r ∧ IsN w' r (a + -b) ∧ Below X.heap.size X w' ∧ Below w6.heap.size w6 w') :=
    fun X z hX hz => (addN_any _ _ a (-b) X (j3.below hX) hz hLa hLn).mono fun _ _ ⟨r, h1, h2, h3⟩ => ⟨r, h1, h2, h3, hX.trans (h3.mono hX.size)⟩
  have HXM : Hid (∀ X, Below w6.heap.size w6 X → Calls Tryd.prog 16 #[.agg #[.bool b1, .slice A1 m1 c1], .agg #[.bool b2, .slice A2 m2 c2]] X fun e w' => ∃ r, e = .returned r ∧ IsN w' r (a * b) ∧ Below X.heap.size X w' ∧ Below w6.heap.size w6 w') :=
    fun X hX => (mulN_any _ _ a b X (j3.below hX) (j2.below hX) hLa hLb).mono fun _ _ ⟨r, h1, h2, h3⟩ => ⟨r, h1, h2, h3, hX.trans (h3.mono hX.size)⟩
  have HI1 : Hid (∀ X n e' r, Below w6.heap.size w6 X → n = S → e' = E → IsN X r (a + b) → Calls Tryd.prog 13 #[.int .i64 n, .int .i64 e', r] X fun e w' => e = .returned (.bool true) ∧ Below X.heap.size X w' ∧ Below w6.heap.size w6 w') :=
    fun X n e' r hX hn he hr => by subst hn; subst he; rw [← hS.out, ← hE.out]; exact (is_t r _ X hr hLs).mono fun _ _ ⟨h1, h3⟩ => ⟨h1, h3, hX.trans (h3.mono hX.size)⟩
  have HI2 : Hid (∀ X n e' r, Below w6.heap.size w6 X → n = D → e' = F → IsN X r (a + -b) → Calls Tryd.prog 13 #[.int .i64 n, .int .i64 e', r] X fun e w' => e = .returned (.bool true) ∧ Below X.heap.size X w' ∧ Below w6.heap.size w6 w') :=
    fun X n e' r hX hn he hr => by subst hn; subst he; rw [← hD.out, ← hF.out]; exact (is_t r _ X hr hLd).mono fun _ _ ⟨h1, h3⟩ => ⟨h1, h3, hX.trans (h3.mono hX.size)⟩
  have HI3 : Hid (∀ X n e' r, Below w6.heap.size w6 X → n = P → e' = G → IsN X r (a * b) → Calls Tryd.prog 13 #[.int .i64 n, .int .i64 e', r] X fun e w' => e = .returned (.bool true) ∧ Below X.heap.size X w' ∧ Below w6.heap.size w6 w') :=
    fun X n e' r hX hn he hr => by subst hn; subst he; rw [← hP.out, ← hG.out]; exact (is_t r _ X hr hLp).mono fun _ _ ⟨h1, h3⟩ => ⟨h1, h3, hX.trans (h3.mono hX.size)⟩
  have t1 : (S != S) = false := by simp
  have t2 : (E != E) = false := by simp
  have f0 := p0.cell 0
  have f1 := p0.cell 1
  have f2 := p1.cell 0
  have f3 := p1.cell 1
  simp at f0 f1 f2 f3
  clear hL hLa hLb hab hLp hLs hLd hLn hS hE hD hF hP hG j2 j3 p0 p1 ha ha' hb hb' h
  go_upto_region 6 with fail
  go_cut [80] (fun s8 wx => s8 = .bool false ∧ Below w6.heap.size w6 wx)
  case first =>
    clear HB o6 hbK l3
    go_region_held3 (fun w' => w'.cell? ⟨w2.heap.size, 0, none⟩ = some (.bool b1) ∧ w'.cell? ⟨w2.heap.size, 1, none⟩ = some (.slice A1 m1 c1) ∧ w'.cell? ⟨g1, 0, none⟩ = some (.bool b2) ∧ w'.cell? ⟨g1, 1, none⟩ = some (.slice A2 m2 c2)) (go_keep)
      (first
      | (go_at_call 15; refine (HXN.out _ (by go_grown)).mono ?_; rintro e x3 ⟨r, rfl, hr2, hy3, hX⟩; obtain ⟨b4, A4, n4, c4, rfl⟩ := id hr2.form; have k0 := (hX.cell (p := ⟨w2.heap.size, 0, none⟩) l0).trans f0; have k1 := (hX.cell (p := ⟨w2.heap.size, 1, none⟩) l0).trans f1; have k2 := (hX.cell (p := ⟨g1, 0, none⟩) hsz).trans f2; have k3 := (hX.cell (p := ⟨g1, 1, none⟩) hsz).trans f3)
      | (go_at_call 14; refine (HX2.out _ _ (by go_grown) (by first | exact hr2 | exact hr2.below (by go_grown))).mono ?_; rintro e x4 ⟨r, rfl, hr3, hy4, hX⟩; obtain ⟨b5, A5, n5, c5, rfl⟩ := id hr3.form; have k0 := (hX.cell (p := ⟨w2.heap.size, 0, none⟩) l0).trans f0; have k1 := (hX.cell (p := ⟨w2.heap.size, 1, none⟩) l0).trans f1; have k2 := (hX.cell (p := ⟨g1, 0, none⟩) hsz).trans f2; have k3 := (hX.cell (p := ⟨g1, 1, none⟩) hsz).trans f3)
      | (go_at_call 14; refine (HX1.out _ (by go_grown)).mono ?_; rintro e x1 ⟨r, rfl, hr1, hy1, hX⟩; obtain ⟨b3, A3, n3, c3, rfl⟩ := id hr1.form; have k0 := (hX.cell (p := ⟨w2.heap.size, 0, none⟩) l0).trans f0; have k1 := (hX.cell (p := ⟨w2.heap.size, 1, none⟩) l0).trans f1; have k2 := (hX.cell (p := ⟨g1, 0, none⟩) hsz).trans f2; have k3 := (hX.cell (p := ⟨g1, 1, none⟩) hsz).trans f3)
      | (go_at_call 16; refine (HXM.out _ (by go_grown)).mono ?_; rintro e x6 ⟨r, rfl, hr4, hy6, hX⟩; obtain ⟨b6, A6, n6, c6, rfl⟩ := id hr4.form; have k0 := (hX.cell (p := ⟨w2.heap.size, 0, none⟩) l0).trans f0; have k1 := (hX.cell (p := ⟨w2.heap.size, 1, none⟩) l0).trans f1; have k2 := (hX.cell (p := ⟨g1, 0, none⟩) hsz).trans f2; have k3 := (hX.cell (p := ⟨g1, 1, none⟩) hsz).trans f3)
      | (go_at_call 13; refine (HI3.out _ _ _ _ (by go_grown) (by exact rfl) (by exact rfl) (by first | exact hr4 | exact hr4.below (by go_grown))).mono ?_; rintro e x7 ⟨rfl, hy7, hX⟩; have k0 := (hX.cell (p := ⟨w2.heap.size, 0, none⟩) l0).trans f0; have k1 := (hX.cell (p := ⟨w2.heap.size, 1, none⟩) l0).trans f1; have k2 := (hX.cell (p := ⟨g1, 0, none⟩) hsz).trans f2; have k3 := (hX.cell (p := ⟨g1, 1, none⟩) hsz).trans f3)
      | (go_at_call 13; refine (HI2.out _ _ _ _ (by go_grown) (by exact rfl) (by exact rfl) (by first | exact hr3 | exact hr3.below (by go_grown))).mono ?_; rintro e x5 ⟨rfl, hy5, hX⟩; have k0 := (hX.cell (p := ⟨w2.heap.size, 0, none⟩) l0).trans f0; have k1 := (hX.cell (p := ⟨w2.heap.size, 1, none⟩) l0).trans f1; have k2 := (hX.cell (p := ⟨g1, 0, none⟩) hsz).trans f2; have k3 := (hX.cell (p := ⟨g1, 1, none⟩) hsz).trans f3)
      | (go_at_call 13; refine (HI1.out _ _ _ _ (by go_grown) (by exact rfl) (by exact rfl) (by first | exact hr1 | exact hr1.below (by go_grown))).mono ?_; rintro e x2 ⟨rfl, hy2, hX⟩; have k0 := (hX.cell (p := ⟨w2.heap.size, 0, none⟩) l0).trans f0; have k1 := (hX.cell (p := ⟨w2.heap.size, 1, none⟩) l0).trans f1; have k2 := (hX.cell (p := ⟨g1, 0, none⟩) hsz).trans f2; have k3 := (hX.cell (p := ⟨g1, 1, none⟩) hsz).trans f3))
    all_goals
      go_wp2_with fail
      go_meet
      exact ⟨by first | rfl | (congr 1; simp [t1, t2]), by go_grown⟩
  case rest =>
    obtain ⟨rfl, hbX⟩ := hcut
    have o7 := o6.step hbX
    clear o6 hbX HX1 HXN HX2 HXM HI1 HI2 HI3 f0 f1 f2 f3 l0 l3 hsz hbK t1 t2
    rcases HB.out with ⟨rfl, hB⟩ | ⟨rfl, v, e', hB⟩
    · have HS := Lib.hid hB
      clear hB HB
      go_wp2_with (first
        | (go_at_call 11; refine (HS.out _).mono ?_; rintro e y1 ⟨rfl, n8⟩; have o8 := o7.step n8)
        | (go_at_call 17; refine (gives_t _ _).mono ?_; rintro e w' ⟨rfl, rfl⟩)
        | (go_at_call 18; refine (lives_t w _ o8).mono ?_; rintro e w' ⟨rfl, hk⟩))
      go_ret
      exact ⟨rfl, hk⟩
    · have HS := Lib.hid hB
      clear hB HB
      go_wp2_with (first
        | (go_at_call 11; refine (HS.out _).mono ?_; rintro e y1 ⟨rfl, n8⟩; have o8 := o7.step n8)
        | (go_at_call 18; refine (lives_t w _ o8).mono ?_; rintro e w' ⟨rfl, hk⟩))
      go_ret
      exact ⟨rfl, hk⟩

theorem sums_law (a b : Int) (w W : World) (ha : -9223372036854775808 ≤ a) (ha' : a ≤ 9223372036854775807) (hb : -9223372036854775808 ≤ b) (hb' : b ≤ 9223372036854775807) (h : Ok w W) :
    Calls Tryd.prog 3 #[.int .i64 a, .int .i64 b] W fun e w' => e = .returned (.bool true) ∧ Ok w w' := by
  refine sums_gen a b (fitV (a + b)) (fitE (a + b)) (fitV (a + -b)) (fitE (a + -b)) (fitV (a * b)) (fitE (a * b)) w W ha ha' hb hb' rfl rfl rfl rfl rfl rfl h ?_
  by_cases hf : -9223372036854775808 ≤ a + b ∧ a + b ≤ 9223372036854775807
  · refine .inl ⟨fitE_in hf.1 hf.2, fun X => ?_⟩
    rw [fitV_in hf.1 hf.2]
    have := sub_any (a + b) b X hf.1 hf.2 hb hb'
    rw [show a + b - b = a by omega, fitV_in ha ha', fitE_in ha ha'] at this
    exact this
  · refine .inr ⟨by rw [fitE, if_neg hf], fitV (0 - b), fitE (0 - b), fun X => ?_⟩
    rw [fitV, if_neg hf]
    exact sub_any 0 b X (by omega) (by omega) hb hb'
end Go.Proofs.YtimahbomndffaaaDoor
