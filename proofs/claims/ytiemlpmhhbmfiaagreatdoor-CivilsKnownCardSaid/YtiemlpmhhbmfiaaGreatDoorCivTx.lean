/- The reference of civil days (circaref06): Text. -/
import Derived.Test.YtiemlpmhhbmfiaaGreatDoorCivTxt
import Derived.Test.YtiemlpmhhbmfiaaGreatDoorCivS
namespace Go.Proofs.YtiemlpmhhbmfiaaGreatDoor
open Go.RowKit

theorem IsN.abs {w : World} {b : Bool} {u : Value} {z : Int} (h : IsN w (.agg #[.bool b, u]) z) : IsN w (.agg #[.bool false, u]) z.natAbs := by
  obtain ⟨ds, ⟨v, hv, hds⟩, h2, h3, h4⟩ := h
  injection hv with hv
  have hu : u = v := by
    have := congrArg (fun a : Array Value => a[1]?) hv
    simpa using this
  subst hu
  exact ⟨ds, ⟨u, by rw [decide_eq_false (by omega)], hds⟩, h2, h3, by rw [h4]; rfl⟩
theorem IsN.neg {w : World} {b : Bool} {u : Value} {z : Int} (h : IsN w (.agg #[.bool b, u]) z) : b = decide (z < 0) := by
  obtain ⟨ds, ⟨v, hv, hds⟩, _⟩ := h
  injection hv with hv
  have := congrArg (fun a : Array Value => a[0]?) hv
  simpa using this
theorem itoa_abs (z : Int) : Lib.itoa ((z.natAbs : Nat) : Int) = Lib.decDigits z.natAbs := by
  unfold Lib.itoa
  rw [if_neg (by omega)]; rfl

theorem bthen' {a b c : World} (h : Below a.heap.size a b) (k : Below b.heap.size b c) : Below a.heap.size a c := h.trans (k.mono h.size)
set_option maxHeartbeats 1600000 in
set_option maxRecDepth 100000 in
theorem ctxtR_any (y m d : Int) (w : World) (h : cE y m d = 0) :
    Calls Tryz.prog 29 #[.agg #[.int .i64 y, .int .i64 m, .int .i64 d]] w fun e w' => e = .returned (.string (civS y m d)) ∧ Below w.heap.size w w' := by
  obtain ⟨h1, h2, h3⟩ := cE_zero.1 h
  obtain ⟨hy, hm⟩ := mE_zero.1 h1
  rw [mo_iff] at hm
  have hl := mlen_bd y m
  obtain ⟨y1, y2⟩ := (yr_iff y).1 hy
  have hd1 : d ≤ 99 := by omega
  clear h h1 hy hl h3
  have HT : Hid (∀ (z : Int) (B : Nat) (A X : World), 0 ≤ z → z ≤ 99 → B ≤ X.heap.size → Below B A X → Calls Tryz.prog 56 #[.int .i64 z] X fun e w' => e = .returned (.string (twoS z.toNat)) ∧ Below B A w') := fun z B A X h1 h2 hB hX => by
    have := twoR_any z.toNat X (by omega)
    rw [show ((z.toNat : Nat) : Int) = z by omega] at this
    exact this.mono fun _ _ ⟨p, q⟩ => ⟨p, hX.trans (q.mono hB)⟩
  go_enter Tryz.func29, Tryz.ntmps29
  go_wp2_with fail
  refine (of_any y _ (by omega) (by omega)).mono ?_
  rintro e w1 ⟨u, rfl, hu, hb⟩
  obtain ⟨b, A, n, c, rfl⟩ := id hu.form
  have hT := tri_new w y m d 23 _ rfl
  obtain ⟨t1, t2, t3⟩ := hT
  have t4 := t1.below t2 hb
  have hbw : Below w.heap.size w w1 := t3.trans (hb.mono (Nat.le_of_lt t2))
  have hg1 : w.heap.size < w1.heap.size := by have := hb.size; omega
  clear t1 t2 t3 hb
  simp only []
  go_wp2_with fail
  have hN : IsN (w1.alloc (.cells #[.bool b, .slice A n c] 84)) (.agg #[.bool b, .slice A n c]) y := hu.below ((Below.refl _ w1).alloc (Nat.le_refl _) _)
  have hbv := hN.neg
  have hlim := lim_small
  refine (textR_any _ _ _ hN.abs (by omega)).mono ?_
  rintro e w2 ⟨rfl, hb2⟩
  rw [itoa_abs]
  have c0 : w2.cell? ⟨w1.heap.size, 0, none⟩ = some (.bool b) := (hb2.cell (p := ⟨w1.heap.size, 0, none⟩) (by simp)).trans (World.cell?_alloc_new w1 _ _ 0)
  have hW : Below w1.heap.size w1 w2 := ((Below.refl w1.heap.size w1).alloc (Nat.le_refl _) _).trans (hb2.mono (by simp))
  have t5 : Three w.heap.size y m d w2 := t4.keep hg1 hW
  have hB : Below w.heap.size w w2 := bthen' hbw hW
  have hsz : w.heap.size < w2.heap.size := by have := hW.size; omega
  have hlen : (Lib.decDigits y.natAbs).length ≤ 19 := dec_len 18 y.natAbs (by omega)
  have HY : Hid (ytx y = preB b ++ padd (Lib.decDigits y.natAbs)) := by show _ = _; rw [hbv]; rfl
  generalize Lib.decDigits y.natAbs = D at *
  have HR : Hid (∀ E : ByteArray, E.data.toList = preB b ++ padd D → E ++ ⟨#[45]⟩ ++ twoS m.toNat ++ ⟨#[45]⟩ ++ twoS d.toNat = civS y m d) := fun E hE => by
    refine ByteArray.ext (Array.toList_inj.1 ?_)
    simp only [ByteArray.data_append, Array.toList_append, hE]
    show _ = (ctx y m d).toArray.toList
    unfold ctx two2 twoS
    rw [HY.out]
    simp
  generalize w1.heap.size = g1 at *
  clear hu hN t4 hbw hb2 HY hbv hW hg1
  simp only []
  go_wp2_with fail
  go_loop [4] (fun v => ∃ (j : Nat) (E : ByteArray), v = .string E ∧ E.size = j + D.length ∧ (j = 0 ∨ E.size ≤ 4) ∧ Hid (E.data.toList = List.replicate j 48 ++ D)) (fun v => match v with | .string E => 4 - E.size | _ => 0)
  case atStart => exact ⟨0, ⟨D.toArray⟩, rfl, by show D.toArray.size = _; simp, .inl rfl, by show _ = _; simp⟩
  case round =>
    obtain ⟨j, E, rfl, hEs, hEj, hE⟩ := hrel
    by_cases hlt : E.size < 4
    · have hl3 : (E.size : Int) < 4 := by omega
      have hs1 : (⟨#[48]⟩ : ByteArray).size = 1 := rfl
      have hs4 : ¬ 9223372036854775807 < 1 + E.size := by omega
      have HE : Hid ((⟨#[48]⟩ ++ E : ByteArray).data.toList = List.replicate (j + 1) 48 ++ D) := by
        show _ = _
        rw [List.replicate_succ, List.cons_append, ← hE.out]
        simp
      have HS : Hid ((⟨#[48]⟩ ++ E : ByteArray).size = 1 + E.size) := by show _ = _; rw [ByteArray.size_append, hs1]
      clear hE hlt
      go_wp2_with fail
      go_round
      case rel => exact ⟨j + 1, _, rfl, by rw [HS.out]; omega, .inr (by rw [HS.out]; omega), HE⟩
      case measure => show 4 - (⟨#[48]⟩ ++ E : ByteArray).size < 4 - E.size; rw [HS.out]; omega
    · have hl3 : ¬ (E.size : Int) < 4 := by omega
      have HE : Hid (E.data.toList = padd D) := by
        show _ = _
        rw [hE.out]
        unfold padd
        congr 2
        omega
      have hE20 : E.size ≤ 19 := by omega
      clear hE hlt hEs hEj
      cases b with
      | true =>
        have hs1 : (⟨#[45]⟩ : ByteArray).size = 1 := rfl
        have hs4 : ¬ 9223372036854775807 < 1 + E.size := by omega
        have HF : Hid ((⟨#[45]⟩ ++ E : ByteArray).data.toList = preB true ++ padd D) := by
          show _ = _
          rw [← HE.out]; unfold preB; simp
        have hFs : (⟨#[45]⟩ ++ E : ByteArray).size ≤ 20 := by rw [ByteArray.size_append, hs1]; omega
        go_wp2_with fail
        generalize (⟨#[45]⟩ ++ E : ByteArray) = F at *
        clear hs1 hs4 HE hE20 hlim c0
        obtain ⟨f0, f1, f2⟩ := id t5
        have KM : Hid (∀ (z : Int) X, z = m → Below w2.heap.size w2 X → Calls Tryz.prog 56 #[.int .i64 z] X fun e w' => e = .returned (.string (twoS m.toNat)) ∧ Below w2.heap.size w2 w') := fun z X hz hX => by subst hz; exact HT.out z _ _ _ (by omega) (by omega) hX.size hX
        have KD : Hid (∀ (z : Int) X, z = d → Below w2.heap.size w2 X → Calls Tryz.prog 56 #[.int .i64 z] X fun e w' => e = .returned (.string (twoS d.toNat)) ∧ Below w2.heap.size w2 w') := fun z X hz hX => by subst hz; exact HT.out z _ _ _ (by omega) (by omega) hX.size hX
        have s0 : (⟨#[45]⟩ : ByteArray).size = 1 := rfl
        have HRF := Lib.hid (HR.out F HF.out)
        have sm : (twoS m.toNat).size = 2 := rfl
        have sd : (twoS d.toNat).size = 2 := rfl
        have s1 : ¬ 9223372036854775807 < F.size + 1 := by omega
        have s2 : ¬ 9223372036854775807 < F.size + 1 + 2 := by omega
        have s3 : ¬ 9223372036854775807 < F.size + 1 + 2 + 1 := by omega
        have s4 : ¬ 9223372036854775807 < F.size + 1 + 2 + 1 + 2 := by omega
        clear HT HF HR
        obtain ⟨tm, htm⟩ : ∃ tm, tm = twoS m.toNat := ⟨_, rfl⟩
        obtain ⟨td, htd⟩ : ∃ td, td = twoS d.toNat := ⟨_, rfl⟩
        rw [← htm] at KM sm HRF
        rw [← htd] at KD sd HRF
        clear htm htd
        go_region_held3 (fun w' => w'.cell? ⟨w.heap.size, 1, none⟩ = some (.int .i64 m) ∧ w'.cell? ⟨w.heap.size, 2, none⟩ = some (.int .i64 d)) (go_keep)
          (first
          | (go_at_call 56; ((with_reducible refine (KM.out _ _ (by exact rfl) (by go_grown)).mono ?_); rintro e x1 ⟨rfl, hX1⟩; have k1 := (hX1.cell (p := ⟨w.heap.size, 1, none⟩) hsz).trans f1; have k2 := (hX1.cell (p := ⟨w.heap.size, 2, none⟩) hsz).trans f2))
          | (go_at_call 56; ((with_reducible refine (KD.out _ _ (by exact rfl) (by go_grown)).mono ?_); rintro e x2 ⟨rfl, hX2⟩; have k3 := (hX2.cell (p := ⟨w.heap.size, 1, none⟩) hsz).trans f1; have k4 := (hX2.cell (p := ⟨w.heap.size, 2, none⟩) hsz).trans f2)))
        all_goals
          go_wp2_with fail
          go_ret
          exact ⟨by rw [← HRF.out]; rfl, hB.trans (Below.mono (by assumption) (Nat.le_of_lt hsz))⟩
      | false =>
        have HF : Hid (E.data.toList = preB false ++ padd D) := HE
        have hFs : E.size ≤ 20 := by omega
        go_wp2_with fail
        generalize E = F at *
        clear HE hE20 hlim c0
        obtain ⟨f0, f1, f2⟩ := id t5
        have KM : Hid (∀ (z : Int) X, z = m → Below w2.heap.size w2 X → Calls Tryz.prog 56 #[.int .i64 z] X fun e w' => e = .returned (.string (twoS m.toNat)) ∧ Below w2.heap.size w2 w') := fun z X hz hX => by subst hz; exact HT.out z _ _ _ (by omega) (by omega) hX.size hX
        have KD : Hid (∀ (z : Int) X, z = d → Below w2.heap.size w2 X → Calls Tryz.prog 56 #[.int .i64 z] X fun e w' => e = .returned (.string (twoS d.toNat)) ∧ Below w2.heap.size w2 w') := fun z X hz hX => by subst hz; exact HT.out z _ _ _ (by omega) (by omega) hX.size hX
        have s0 : (⟨#[45]⟩ : ByteArray).size = 1 := rfl
        have HRF := Lib.hid (HR.out F HF.out)
        have sm : (twoS m.toNat).size = 2 := rfl
        have sd : (twoS d.toNat).size = 2 := rfl
        have s1 : ¬ 9223372036854775807 < F.size + 1 := by omega
        have s2 : ¬ 9223372036854775807 < F.size + 1 + 2 := by omega
        have s3 : ¬ 9223372036854775807 < F.size + 1 + 2 + 1 := by omega
        have s4 : ¬ 9223372036854775807 < F.size + 1 + 2 + 1 + 2 := by omega
        clear HT HF HR
        obtain ⟨tm, htm⟩ : ∃ tm, tm = twoS m.toNat := ⟨_, rfl⟩
        obtain ⟨td, htd⟩ : ∃ td, td = twoS d.toNat := ⟨_, rfl⟩
        rw [← htm] at KM sm HRF
        rw [← htd] at KD sd HRF
        clear htm htd
        go_region_held3 (fun w' => w'.cell? ⟨w.heap.size, 1, none⟩ = some (.int .i64 m) ∧ w'.cell? ⟨w.heap.size, 2, none⟩ = some (.int .i64 d)) (go_keep)
          (first
          | (go_at_call 56; ((with_reducible refine (KM.out _ _ (by exact rfl) (by go_grown)).mono ?_); rintro e x1 ⟨rfl, hX1⟩; have k1 := (hX1.cell (p := ⟨w.heap.size, 1, none⟩) hsz).trans f1; have k2 := (hX1.cell (p := ⟨w.heap.size, 2, none⟩) hsz).trans f2))
          | (go_at_call 56; ((with_reducible refine (KD.out _ _ (by exact rfl) (by go_grown)).mono ?_); rintro e x2 ⟨rfl, hX2⟩; have k3 := (hX2.cell (p := ⟨w.heap.size, 1, none⟩) hsz).trans f1; have k4 := (hX2.cell (p := ⟨w.heap.size, 2, none⟩) hsz).trans f2)))
        all_goals
          go_wp2_with fail
          go_ret
          exact ⟨by rw [← HRF.out]; rfl, hB.trans (Below.mono (by assumption) (Nat.le_of_lt hsz))⟩
end Go.Proofs.YtiemlpmhhbmfiaaGreatDoor
