/- The reference's product. -/
import Derived.Test.YtimahbomndffaaaDoorIntR
import Derived.RegionTactic
import Derived.Deep.LoopGhost
namespace Go.Proofs.YtimahbomndffaaaDoor
open Go.RowKit

def OutInv (ps qs os : List Nat) (i : Nat) : Prop := os.length = ps.length + qs.length + 1 ∧ dig10 os ∧ valD os = valD (ps.take i) * valD qs ∧ ∀ j, i + qs.length ≤ j → os.getD j 0 = 0
def InInv (ps qs os : List Nat) (i k c : Nat) : Prop := os.length = ps.length + qs.length + 1 ∧ dig10 os ∧ c ≤ 9 ∧ valD os + 10 ^ i * 10 ^ k * c = valD (ps.take i) * valD qs + 10 ^ i * (ps.getD i 0 * valD (qs.take k)) ∧
  (∀ j, i + qs.length < j → os.getD j 0 = 0) ∧ (k ≤ qs.length → os.getD (i + qs.length) 0 = 0) ∧ k ≤ qs.length + 1 ∧ (k = qs.length + 1 → c = 0)
theorem InInv.start {ps qs os : List Nat} {i : Nat} (h : OutInv ps qs os i) : InInv ps qs os i 0 0 := by
  obtain ⟨h1, h2, h3, h4⟩ := h
  exact ⟨h1, h2, by omega, by simp [valD, h3], fun j hj => h4 j (by omega), fun _ => h4 _ (Nat.le_refl _), by omega, fun _ => rfl⟩
theorem InInv.done {ps qs os : List Nat} {i k : Nat} (h : InInv ps qs os i k 0) (hk : qs.length ≤ k) : OutInv ps qs os (i + 1) := by
  obtain ⟨h1, h2, _, h4, h5, _⟩ := h
  refine ⟨h1, h2, ?_, fun j hj => h5 j (by omega)⟩
  rw [List.take_of_length_le hk, Nat.mul_zero, Nat.add_zero] at h4
  rw [h4, valD_take_succ, Nat.add_mul, Nat.mul_assoc]
theorem InInv.step {ps qs os : List Nat} {i k c x y z s : Nat} (h : InInv ps qs os i k c) (hi : i < ps.length) (hgo : k < qs.length ∨ 0 < c) (hp : dig10 ps) (hq : dig10 qs)
    (hx : x = ps.getD i 0) (hy : y = qs.getD k 0) (hz : z = os.getD (i + k) 0) (hs : s = z + x * y + c) : InInv ps qs (os.set (i + k) (s % 10)) i (k + 1) (s / 10) := by
  obtain ⟨h1, h2, h3, h4, h5, h6, h7, h8⟩ := h
  have hkq : k ≤ qs.length := by
    rcases Nat.lt_or_ge qs.length k with h | h
    · have := h8 (by omega); omega
    · exact h
  have x9 := dig10_at hp i
  have y9 := dig10_at hq k
  have z9 := dig10_at h2 (i + k)
  rw [← hx] at x9
  rw [← hy] at y9
  rw [← hz] at z9
  have hxy : x * y ≤ 9 * 9 := Nat.mul_le_mul (by omega) (by omega)
  have hlt : i + k < os.length := by omega
  have hset := valD_set os (s % 10) (i + k) hlt
  rw [← hz, Nat.pow_add] at hset
  refine ⟨by rw [List.length_set]; exact h1, dig10_set h2 (Nat.mod_lt _ (by omega)), by omega, ?_, fun j hj => ?_, fun hk1 => ?_, by omega, fun hk1 => ?_⟩
  · rw [valD_take_succ, ← hy, Nat.pow_succ, ← hx]
    rw [← hx] at h4
    exact mul_step h4 hset hs rfl rfl
  · rw [getD_set_other _ _ (by omega)]; exact h5 j hj
  · rw [getD_set_other _ _ (by omega)]; exact h6 hkq
  · have hkl : k = qs.length := by omega
    have y0 : y = 0 := by rw [hy, List.getD_eq_getElem?_getD, List.getElem?_eq_none (by omega)]; rfl
    have z0 : z = 0 := by rw [hz, hkl]; exact h6 hkq
    rw [y0, z0, Nat.mul_zero] at hs
    omega

/-- A row of bytes that is a block of its own. -/
def Rw (w : World) (g : Nat) (os : List Nat) : Prop := w.heap[g]? = some (.cells (cellsD os).toArray 5 (0, 0))
section
variable {w w' : World} {g : Nat} {os : List Nat}
theorem Rw.lt (h : Rw w g os) : g < w.heap.size := by
  rcases Nat.lt_or_ge g w.heap.size with h' | h'
  · exact h'
  · unfold Rw at h; rw [Array.getElem?_eq_none h'] at h; cases h
theorem Rw.cell (h : Rw w g os) {i : Nat} (hi : i < os.length) : w.cell? ⟨g, i, none⟩ = some (.int .u8 ((os.getD i 0 : Nat) : Int)) := by
  rw [cell_of_row w g i _ _ (0, 0) h]
  simp [cellsD, List.getElem?_map, List.getD_eq_getElem?_getD, List.getElem?_eq_getElem hi]
theorem Rw.frozen (h : Rw w g os) (i : Nat) : w.frozen? ⟨g, i, none⟩ = false := by
  unfold Rw at h
  simp [World.frozen?, h]
theorem Rw.put (h : Rw w g os) (i d : Nat) : Rw (w.setCell ⟨g, i, none⟩ (.int .u8 (d : Int))) g (os.set i d) := by
  unfold Rw at h ⊢
  simp [World.setCell, Array.getElem?_modify, h, cellsD, List.map_set]
theorem Rw.drewN (h : Rw w g os) (n : Nat) : Rw (w.drewN n) g os := h
theorem Rw.ne (h : Rw w g os) {g' : Nat} {cs : Array Value} (h' : Bk w g' cs) : g' ≠ g := by
  rintro rfl
  unfold Rw at h
  unfold Bk at h'
  rw [h] at h'
  injection h' with h'
  injection h' with _ ht _
  exact absurd ht (by decide)
theorem Rw.ds (h : Rw w g os) (hl : os.length ≤ maxLen) : DS w w.heap.size (.slice (some ⟨g, 0, none⟩) os.length os.length) os :=
  ⟨some ⟨g, 0, none⟩, os.length, rfl, Nat.le_refl _, hl, fun _ => ⟨g, 0, _, _, rfl, h.lt, h, fun i hi => by
    rw [Nat.zero_add]
    simp [cellsD, List.getElem?_map, List.getD_eq_getElem?_getD, List.getElem?_eq_getElem hi]⟩⟩
end

def rowZ (L : Nat) : Array Value := (cellsD (List.replicate L 0)).toArray
theorem Rw.newZ (W : World) (L : Nat) : Rw (W.alloc (.cells (rowZ L) 5)) W.heap.size (List.replicate L 0) := heap_alloc_new W _
theorem Rw.alloc {w : World} {g : Nat} {os : List Nat} (h : Rw w g os) (o : Obj) : Rw (w.alloc o) g os := (Below.heap_alloc w o g h.lt).trans h
theorem made_rowZ (n : Nat) : madeCells (Value.cells (.int .u8 0)) n = rowZ n := by
  have hz : Value.cells (.int .u8 0) = #[.int .u8 0] := rfl
  rw [hz]
  apply Array.ext
  · simp [madeCells, rowZ, cellsD]
  · intro i h1 h2
    simp [madeCells, rowZ, cellsD, Nat.mod_one]
theorem make_row (L : Nat) (hL : L ≤ 1000) (W : World) : (Instr.makeSlice 22 (.int .i64 (L : Int)) (.int .i64 (L : Int))).run Tryd.prog W = .ok (.slice (some ⟨W.heap.size, 0, none⟩) L L) (W.alloc (.cells (rowZ L) 5)) := by
  obtain ⟨i0, hi, hz0, hz1, hz2⟩ := info_parts infoU8
  have h := run_make (P := Tryd.prog) W 22 5 i0 _ Tryd.underlying22 hi hz0 .i64 .i64 L L (by omega) (by omega) (by rw [hz2]; omega) (by omega)
  rw [Int.toNat_natCast, hz1, Nat.mul_one, made_rowZ] at h
  exact h

theorem DS.old_at {w : World} {B : Nat} {A : Option Addr} {n c : Nat} {ds : List Nat} (h : DS w B (.slice A n c) ds) {i : Nat} (hi : i < ds.length) :
    ∃ b o, A = some ⟨b, o, none⟩ ∧ b < B ∧ w.cell? ⟨b, o + i, none⟩ = some (.int .u8 ((ds.getD i 0 : Nat) : Int)) := by
  obtain ⟨A1, c1, hv, _, _, hc⟩ := h.old
  injection hv with h1 h2 h3
  subst h1
  obtain ⟨b, o, ha, hb, hcell⟩ := hc (by omega)
  exact ⟨b, o, ha, hb, hcell i hi⟩

set_option maxRecDepth 100000 in
set_option maxHeartbeats 4000000 in
theorem mulN_raw (v u : Value) (n1 n2 : Bool) (ps qs : List Nat) (w : World) (hv : NR w v n1 ps) (hu : NR w u n2 qs) (dp : dig10 ps) (dq : dig10 qs) (hlp : ps.length ≤ 200) (hlq : qs.length ≤ 200) :
    Calls Tryd.prog 16 #[v, u] w fun e w' => ∃ r, e = .returned r ∧ IsN w' r (sgv (n1 != n2) (valD ps * valD qs)) ∧ Below w.heap.size w w' := by
  obtain ⟨A, c, rfl, hA⟩ := hv.open
  obtain ⟨A', c', rfl, hA'⟩ := hu.open
  go_enter Tryd.func16, Tryd.ntmps16
  go_upto_region 1 with fail
  obtain ⟨b0, b1, b2, hb, hs⟩ := three_new w #[Value.bool n1, Value.slice A ps.length c] #[Value.bool n2, Value.slice A' qs.length c'] #[Value.bool false, Value.slice none 0 0] _ rfl
  generalize ((w.alloc (Obj.cells #[Value.bool n1, Value.slice A ps.length c] 24)).alloc (Obj.cells #[Value.bool n2, Value.slice A' qs.length c'] 24)).alloc (Obj.cells #[Value.bool false, Value.slice none 0 0] 24) = W at *
  generalize e2 : w.heap.size + 1 + 1 = g2 at *
  generalize e1 : w.heap.size + 1 = g1 at *
  have l1 : w.heap.size < g1 := by omega
  have l2 : g1 < g2 := by omega
  clear e1 e2 hv hu
  have f0 := b0.cell 0
  have f1 := b0.cell 1
  have f2 := b1.cell 0
  have f3 := b1.cell 1
  simp at f0 f1 f2 f3
  obtain ⟨L, hL⟩ : ∃ L, L = ps.length + qs.length + 1 := ⟨_, rfl⟩
  have v1 : IntKind.i64.wrap ((ps.length : Int) + qs.length) = (ps.length : Int) + qs.length := IntWalk.i64_in _ ⟨by omega, by omega⟩
  have v2 : IntKind.i64.wrap ((ps.length : Int) + qs.length + 1) = (L : Int) := by rw [IntWalk.i64_in _ ⟨by omega, by omega⟩]; omega
  have hmk := make_row L (by omega)
  have hmk2 : ∀ X : World, (Instr.makeSlice 22 (.int .i64 ((ps.length : Int) + qs.length + 1)) (.int .i64 ((ps.length : Int) + qs.length + 1))).run Tryd.prog X = .ok (.slice (some ⟨X.heap.size, 0, none⟩) L L) (X.alloc (.cells (rowZ L) 5)) := by
    rw [show (ps.length : Int) + qs.length + 1 = (L : Int) by omega]; exact hmk
  have k1 : g1 < W.heap.size := b1.lt
  have k0 : w.heap.size < W.heap.size := b0.lt
  have F0 : ∀ o, (W.alloc o).cell? ⟨w.heap.size, 0, none⟩ = _ := fun o => (World.cell?_alloc_lt W o ⟨w.heap.size, 0, none⟩ k0).trans f0
  have G0 : ∀ o o', ((W.alloc o).alloc o').cell? ⟨w.heap.size, 0, none⟩ = _ := fun o o' => (World.cell?_alloc_lt (W.alloc o) o' ⟨w.heap.size, 0, none⟩ (by simp; omega)).trans (F0 o)
  have F1 : ∀ o, (W.alloc o).cell? ⟨w.heap.size, 1, none⟩ = _ := fun o => (World.cell?_alloc_lt W o ⟨w.heap.size, 1, none⟩ k0).trans f1
  have G1 : ∀ o o', ((W.alloc o).alloc o').cell? ⟨w.heap.size, 1, none⟩ = _ := fun o o' => (World.cell?_alloc_lt (W.alloc o) o' ⟨w.heap.size, 1, none⟩ (by simp; omega)).trans (F1 o)
  have F2 : ∀ o, (W.alloc o).cell? ⟨g1, 0, none⟩ = _ := fun o => (World.cell?_alloc_lt W o ⟨g1, 0, none⟩ k1).trans f2
  have G2 : ∀ o o', ((W.alloc o).alloc o').cell? ⟨g1, 0, none⟩ = _ := fun o o' => (World.cell?_alloc_lt (W.alloc o) o' ⟨g1, 0, none⟩ (by simp; omega)).trans (F2 o)
  have F3 : ∀ o, (W.alloc o).cell? ⟨g1, 1, none⟩ = _ := fun o => (World.cell?_alloc_lt W o ⟨g1, 1, none⟩ k1).trans f3
  have G3 : ∀ o o', ((W.alloc o).alloc o').cell? ⟨g1, 1, none⟩ = _ := fun o o' => (World.cell?_alloc_lt (W.alloc o) o' ⟨g1, 1, none⟩ (by simp; omega)).trans (F3 o)
  have HL := Lib.hid hL
  clear hL
  go_cut [5] (fun s5 wx => ∃ g5 gD, s5 = .pointer (some ⟨g5, 0, none⟩) ∧ Bk wx g5 #[.bool (n1 != n2), .slice (some ⟨gD, 0, none⟩) L L] ∧ Rw wx gD (List.replicate L 0) ∧ g2 < g5 ∧ g2 < gD ∧ Below W.heap.size W wx)
  case first =>
    go_region
    all_goals
      go_wp2_with fail
      go_meet
    · refine ⟨W.heap.size + 1, W.heap.size, rfl, ?_, (Rw.newZ W L).alloc _, by omega, by omega, by go_grown⟩
      have := Bk.new (W.alloc (Obj.cells (rowZ L) 5)) #[Value.bool (n1 != n2), Value.slice (some ⟨W.heap.size, 0, none⟩) L L]
      rw [World.size_alloc] at this
      exact this
    · refine ⟨W.heap.size, W.heap.size + 1, rfl, (Bk.new W #[Value.bool (n1 != n2), Value.slice (some ⟨W.heap.size + 1, 0, none⟩) L L]).alloc _, ?_, by omega, by omega, by go_grown⟩
      have := Rw.newZ (W.alloc (Obj.cells #[Value.bool (n1 != n2), Value.slice (some ⟨W.heap.size + 1, 0, none⟩) L L] 24)) L
      rw [World.size_alloc] at this
      exact this
  case rest =>
    obtain ⟨g5, gD, rfl, b5, bD, l3, l4, hb1⟩ := hcut
    have a0 := b0.below hb1 b0.lt
    have a1 := b1.below hb1 b1.lt
    have a2 := b2.below hb1 b2.lt
    have hbw := hb.trans (hb1.mono hb.size)
    have hst : OutInv ps qs (List.replicate L 0) 0 := by
      refine ⟨by rw [List.length_replicate]; exact HL.out, fun d hd => by rw [List.eq_of_mem_replicate hd]; omega, ?_, fun j _ => by simp [List.getD_eq_getElem?_getD, List.getElem?_replicate]; split <;> rfl⟩
      rw [valD_zero (by simp)]; simp [valD]
    clear f0 f1 f2 f3 F0 F1 F2 F3 G0 G1 G2 G3 hmk hmk2 v1 v2 k0 k1 hs b0 b1 b2 hb hb1
    obtain ⟨nn, hnn⟩ : ∃ nn, nn = (n1 != n2) := ⟨_, rfl⟩
    rw [← hnn] at b5
    have HN := Lib.hid hnn
    clear hnn
    go_wp2_with fail
    go_loopw [6] (fun x wr => ∃ (i : Nat) (os : List Nat), x = .int .i64 i ∧ i ≤ ps.length ∧ OutInv ps qs os i ∧ Bk wr w.heap.size #[.bool n1, .slice A ps.length c] ∧ Bk wr g1 #[.bool n2, .slice A' qs.length c'] ∧ Bk wr g2 #[.bool false, .slice none 0 0] ∧
        Bk wr g5 #[.bool nn, .slice (some ⟨gD, 0, none⟩) L L] ∧ Rw wr gD os ∧ Below w.heap.size w wr) (fun x _ => ps.length - (intOf x).toNat)
    case atStart => exact ⟨0, _, rfl, by omega, hst, a0, a1, a2, b5, bD, hbw⟩
    case round =>
      obtain ⟨i, os, rfl, hi, hin, r0, r1, r2, r5, rD, hbr⟩ := hrel
      clear a0 a1 a2 b5 bD hbw hst
      have f0 := r0.cell 1
      simp at f0
      by_cases hgo : i < ps.length
      · have hI := InInv.start hin
        clear hin
        obtain ⟨wo, rfl⟩ : ∃ wo : World, wo = wr := ⟨_, rfl⟩
        go_wp2_with fail
        go_loopw [7, 8] (fun cv kv wi => ∃ (k cc : Nat) (oi : List Nat), cv = .int .i64 cc ∧ kv = .int .i64 k ∧ InInv ps qs oi i k cc ∧ Bk wi w.heap.size #[.bool n1, .slice A ps.length c] ∧ Bk wi g1 #[.bool n2, .slice A' qs.length c'] ∧ Bk wi g2 #[.bool false, .slice none 0 0] ∧
            Bk wi g5 #[.bool nn, .slice (some ⟨gD, 0, none⟩) L L] ∧ Rw wi gD oi ∧ Below w.heap.size w wi) (fun _ kv _ => qs.length + 1 - (intOf kv).toNat)
        case atStart => exact ⟨0, 0, os, rfl, rfl, hI, r0, r1, r2, r5, rD, hbr⟩
        case round =>
          obtain ⟨k, cc, oi, rfl, rfl, hI2, s0, s1, s2, s5, sD, hbi⟩ := hrel
          clear hI r0 r1 r2 r5 rD hbr f0
          have f1 := s1.cell 1
          simp at f1
          have hk1 : k ≤ qs.length + 1 := hI2.2.2.2.2.2.2.1
          have hc9 : cc ≤ 9 := hI2.2.2.1
          by_cases hgo2 : k < qs.length ∨ 0 < cc
          · obtain ⟨b, o, rfl, hbb, hcell⟩ := hA.old_at hgo
            obtain ⟨x, hx⟩ : ∃ x, x = ps.getD i 0 := ⟨_, rfl⟩
            obtain ⟨y, hy⟩ : ∃ y, y = qs.getD k 0 := ⟨_, rfl⟩
            obtain ⟨z, hz⟩ : ∃ z, z = oi.getD (i + k) 0 := ⟨_, rfl⟩
            have hkq : k ≤ qs.length := by
              rcases Nat.lt_or_ge qs.length k with h | h
              · have := hI2.2.2.2.2.2.2.2 (by omega); omega
              · exact h
            have hoi : oi.length = L := by rw [hI2.1, HL.out]
            have hikL : i + k < L := by have := HL.out; omega
            have fz := sD.cell (i := i + k) (by omega)
            have fx := (hbi.cell (p := ⟨b, o + i, none⟩) hbb).trans hcell
            rw [← hz] at fz
            rw [← hx] at fx
            have x9 : x < 10 := by rw [hx]; exact dig10_at dp _
            have y9 : y < 10 := by rw [hy]; exact dig10_at dq _
            have z9 : z < 10 := by rw [hz]; exact dig10_at hI2.2.1 _
            have hxy : x * y ≤ 9 * 9 := Nat.mul_le_mul (by omega) (by omega)
            have hY : Hid (∀ n, Calls Tryd.prog 35 #[.slice A' qs.length c', .int .i64 k] (wr.drewN n) fun e w'' => e = .returned (.int .i64 y) ∧ ∃ m, w'' = wr.drewN m) :=
              fun n => by rw [hy]; exact quiet_l (digit_any _ qs _ _ (hA'.below (below_drewN hbi n) (Nat.le_refl _)) (by omega) dq)
            obtain ⟨m, hm⟩ : ∃ m, m = x * y := ⟨_, rfl⟩
            obtain ⟨s, hs⟩ : ∃ s, s = z + x * y + cc := ⟨_, rfl⟩
            have HI : Hid (InInv ps qs (oi.set (i + k) (s % 10)) i (k + 1) (s / 10)) := hI2.step hgo hgo2 dp dq hx hy hz hs
            have hs99 : s ≤ 99 := by omega
            have w0 : IntKind.i64.wrap ((i : Int) + k) = (i : Int) + k := IntWalk.i64_in _ ⟨by omega, by omega⟩
            have w1 : IntKind.i64.wrap (z : Int) = (z : Int) := IntWalk.i64_in _ ⟨by omega, by omega⟩
            have w2 : IntKind.i64.wrap (x : Int) = (x : Int) := IntWalk.i64_in _ ⟨by omega, by omega⟩
            have w3 : IntKind.i64.wrap ((x : Int) * y) = (m : Int) := by rw [← Int.natCast_mul, ← hm]; exact IntWalk.i64_in _ ⟨by omega, by omega⟩
            have w4 : IntKind.i64.wrap ((z : Int) + m) = (z : Int) + m := IntWalk.i64_in _ ⟨by omega, by omega⟩
            have w5 : IntKind.i64.wrap ((z : Int) + m + cc) = (s : Int) := by rw [IntWalk.i64_in _ ⟨by omega, by omega⟩]; omega
            have k0 : (0 : Int) ≤ (i : Int) + k := by omega
            have k1 : (i : Int) + k < L := by omega
            have t1 : wr.frozen? ⟨gD, i + k, none⟩ = false := sD.frozen _
            have f0 := s0.cell 1
            have f2 := s5.cell 1
            simp at f0 f2
            have hil : (i : Int) < ps.length := by omega
            clear hI2 hx hy hz hs hm hxy hcell hoi
            have h3 : k < qs.length ∨ (qs.length ≤ k ∧ 1 ≤ cc) := by omega
            clear hgo2
            rcases h3 with h3 | ⟨h3, h4⟩
            all_goals
              go_wp2_with fail
              go_quiet ((go_at_call 35; exact hY.out _))
              have p0 := s0.drewN nq
              have p1 := s1.drewN nq
              have p2 := s2.drewN nq
              have p5 := s5.drewN nq
              have pD := sD.drewN nq
              have pb := below_drewN hbi nq
              clear s0 s1 s2 s5 sD hbi f0 f1 f2 fz fx t1 hY w0 w1 w2 w3 w4 w5
              generalize wr.drewN nq = wq at *
              have f2 := p5.cell 1
              simp at f2
              have fz := pD.cell (i := i + k) (by have := HI.out.1; rw [List.length_set] at this; rw [this, ← HL.out]; exact hikL)
              have t1 : wq.frozen? ⟨gD, i + k, none⟩ = false := pD.frozen _
              go_wp2_with fail
              go_roundw
              case rel =>
                have e : ((s : Int) % 10) = ((s % 10 : Nat) : Int) := by omega
                refine ⟨k + 1, s / 10, oi.set (i + k) (s % 10), by first | rfl | go_num, by go_num, HI.out, p0.far (pD.ne p0) _, p1.far (pD.ne p1) _, p2.far (pD.ne p2) _, p5.far (pD.ne p5) _, by rw [e]; exact pD.put _ _, pb.setCell (by simp; omega) _⟩
              case measure => simp [intOf]; omega
          · have hk2 : qs.length ≤ k := by omega
            have hc0 : cc = 0 := by omega
            subst hc0
            have hO := hI2.done hk2
            clear hI2 hgo2
            go_wp2_with fail
            go_roundw
            case rel => exact ⟨i + 1, oi, by first | rfl | go_num, by omega, hO, s0, s1, s2, s5, sD, hbi⟩
            case measure => simp [intOf]; omega
      · have hil : i = ps.length := by omega
        subst hil
        obtain ⟨h1, h2, h3, -⟩ := hin
        rw [List.take_length] at h3
        have hosL : os.length = L := by rw [h1, HL.out]
        have hL2 : os.length ≤ 401 := by have := HL.out; omega
        have hds : DS wr wr.heap.size (.slice (some ⟨gD, 0, none⟩) L L) os := by rw [← hosL]; exact rD.ds (by unfold maxLen; omega)
        have hnr : NR wr (.agg #[.bool nn, .slice (some ⟨gD, 0, none⟩) L L]) nn os := ⟨_, rfl, hds⟩
        have HV : Hid (sgv nn (valD os) = sgv (n1 != n2) (valD ps * valD qs)) := by rw [h3, ← HN.out]; exact rfl
        have f2 := r5.cell 0
        have f3 := r5.cell 1
        simp at f2 f3
        have HB := Lib.hid hds
        clear h3 h1 hosL hds
        go_wp2_with (go_at_call 36; refine (trim_any _ _ _ _ hnr h2 (by omega)).mono ?_; rintro e w1 ⟨r, rfl, hr, hb1⟩; obtain ⟨b4, A4, n4, c4, rfl⟩ := id hr.form; have q2 := r2.below hb1 r2.lt; have q20 := q2.cell 0; have q21 := q2.cell 1; have q22 := q2.frozen 0; have q23 := q2.frozen 1; simp at q20 q21)
        refine bodyPost_ret (res_struct (g := g2) rfl rfl (by simpa using (q2.put 0 (.bool b4)).put 1 (.slice A4 n4 c4))) rfl ?_
        refine ⟨_, rfl, ?_, ?_⟩
        · rw [← HV.out]
          exact (hr.put q2 0 _).put (q2.put 0 (.bool b4)) 1 _
        · have := hbr.trans (hb1.mono hbr.size)
          go_grown

theorem mulN_any (v u : Value) (x y : Int) (w : World) (hv : IsN w v x) (hu : IsN w u y) (hx : x.natAbs < lim) (hy : y.natAbs < lim) :
    Calls Tryd.prog 16 #[v, u] w fun e w' => ∃ r, e = .returned r ∧ IsN w' r (x * y) ∧ Below w.heap.size w w' := by
  obtain ⟨ps, hp1, hp2, hp3, hp4, hp5⟩ := hv.len hx
  obtain ⟨qs, hq1, hq2, hq3, hq4, hq5⟩ := hu.len hy
  have h := mulN_raw v u _ _ ps qs w hp1 hq1 hp2 hq2 hp5 hq5
  have e : sgv (decide (x < 0) != decide (y < 0)) (valD ps * valD qs) = x * y := by
    rw [mul_size, hp4, hq4]; rfl
  rw [e] at h
  exact h
end Go.Proofs.YtimahbomndffaaaDoor
