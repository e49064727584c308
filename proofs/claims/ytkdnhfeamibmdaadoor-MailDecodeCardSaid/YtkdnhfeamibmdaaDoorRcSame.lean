/-
  Same of the statements of records: two records that read alike.
-/
import Derived.Test.YtkdnhfeamibmdaaDoorRcDec
import Derived.Deep.QuietTactic
import Derived.BigQuiet
namespace Go.Proofs.YtkdnhfeamibmdaaDoor
open Go.RowKit
/-- All memory as it was. -/
def Still (w w' : World) : Prop := ∀ B, Below B w w'
theorem Still.refl (w : World) : Still w w := fun B => Below.refl B w
theorem Still.drewN {w w' : World} (h : Still w w') (n : Nat) : Still w (w'.drewN n) := fun B => ⟨(h B).os, (h B).tape, (h B).output, (h B).size, (h B).block⟩
theorem Still.cell {w w' : World} (h : Still w w') (a : Addr) : w'.cell? a = w.cell? a := (h (a.block + 1)).cell (by omega)
set_option maxRecDepth 100000 in
set_option maxHeartbeats 1000000 in
theorem sameEs_any {va vb : Value} {B B' : Nat} {es : List En} {w : World} (ha : EsB B w va es) (hb : EsB B' w vb es) : Calls Tryd.prog 39 #[va, vb] w (NumPost (.bool true) w) := by
  have HCA := Lib.hid (fun k hk => EsB.cells ha (k := k) hk)
  have HCB := Lib.hid (fun k hk => EsB.cells hb (k := k) hk)
  obtain ⟨A, ca, rfl, h1, h2, -⟩ := ha.len
  obtain ⟨A', cb, rfl, h1', h2', -⟩ := hb.len
  have hl : es.length ≤ maxLen := by omega
  unfold maxLen at hl
  clear ha hb h2 h2'
  go_enter Tryd.func39, Tryd.ntmps39
  go_wp2
  go_loopw [5] (fun i wr => ∃ k : Nat, k ≤ es.length ∧ i = .int .i64 k ∧ Still w wr) (fun i _ => es.length - (intOf i).toNat)
  case atStart => exact ⟨0, Nat.zero_le _, rfl, Still.refl _⟩
  case round =>
    obtain ⟨k, hk, rfl, hst⟩ := hrel
    by_cases hlt : k < es.length
    · obtain ⟨b1, o1, c1, hv1, _, x0, x1, x2, x3, x4, x5⟩ := HCA.out k hlt
      obtain ⟨b2, o2, c2, hv2, _, y0, y1, y2, y3, y4, y5⟩ := HCB.out k hlt
      injection hv1 with e1 _ e3
      injection hv2 with e2 _ e4
      subst e1 e2 e3 e4
      have x0 := (hst.cell ⟨b1, o1 + k * 6, none⟩).trans x0
      have y0 := (hst.cell ⟨b2, o2 + k * 6, none⟩).trans y0
      have x1 := (hst.cell ⟨b1, o1 + k * 6 + 1, none⟩).trans x1
      have y1 := (hst.cell ⟨b2, o2 + k * 6 + 1, none⟩).trans y1
      have x2 := (hst.cell ⟨b1, o1 + k * 6 + 2, none⟩).trans x2
      have y2 := (hst.cell ⟨b2, o2 + k * 6 + 2, none⟩).trans y2
      have x3 := (hst.cell ⟨b1, o1 + k * 6 + 3, none⟩).trans x3
      have y3 := (hst.cell ⟨b2, o2 + k * 6 + 3, none⟩).trans y3
      have x4 := (hst.cell ⟨b1, o1 + k * 6 + 4, none⟩).trans x4
      have y4 := (hst.cell ⟨b2, o2 + k * 6 + 4, none⟩).trans y4
      have x5 := (hst.cell ⟨b1, o1 + k * 6 + 5, none⟩).trans x5
      have y5 := (hst.cell ⟨b2, o2 + k * 6 + 5, none⟩).trans y5
      have hii : (k : Int) < (es.length : Int) := by omega
      clear HCA HCB
      generalize es[k] = ee at *
      obtain ⟨z0, z1, z2, z3, z4, z5⟩ := ee
      dsimp only at x0 x1 x2 x3 x4 x5 y0 y1 y2 y3 y4 y5
      go_wp2
      go_quiet (fail)
      go_wp2
      go_roundw
      case rel => exact ⟨k + 1, by omega, by go_num, hst.drewN _⟩
      case measure => simp [intOf]; omega
    · go_wp2
      go_ret
      exact ⟨rfl, hst _⟩
set_option maxRecDepth 100000 in
set_option maxHeartbeats 4000000 in
theorem same_any (ki st ep vi fr le : Int) {es : List En} {fd : List Sp} {A A' D D' : Option Addr} {c c' d d' B1 B2 B3 B4 : Nat} {w : World} (ha : EsB B1 w (.slice A es.length c) es) (ha' : FdB B2 w (.slice A' fd.length c') fd)
    (hb : EsB B3 w (.slice D es.length d) es) (hb' : FdB B4 w (.slice D' fd.length d') fd) (hB1 : B1 ≤ w.heap.size) (hB2 : B2 ≤ w.heap.size) (hB3 : B3 ≤ w.heap.size) (hB4 : B4 ≤ w.heap.size) :
    Calls Tryd.prog 12 #[.agg #[.int .i64 ki, .int .i64 st, .int .i64 ep, .int .i64 vi, .int .i64 fr, .int .i64 le, .slice A es.length c, .slice A' fd.length c'], .agg #[.int .i64 ki, .int .i64 st, .int .i64 ep, .int .i64 vi, .int .i64 fr, .int .i64 le, .slice D es.length d, .slice D' fd.length d']] w (NumPost (.bool true) w) := by
  obtain ⟨w0, HW0⟩ : ∃ w0, Hid (w0 = (w.alloc (.cells #[.int .i64 ki, .int .i64 st, .int .i64 ep, .int .i64 vi, .int .i64 fr, .int .i64 le, .slice A es.length c, .slice A' fd.length c'] 25)).alloc (.cells #[.int .i64 ki, .int .i64 st, .int .i64 ep, .int .i64 vi, .int .i64 fr, .int .i64 le, .slice D es.length d, .slice D' fd.length d'] 25)) := ⟨_, Lib.hid rfl⟩
  have hb0 : Below w.heap.size w w0 := by rw [HW0.out]; exact ((Below.refl _ _).alloc (Nat.le_refl _) _).alloc (by simp) _
  have n1 : w0.heap[w.heap.size]? = some (.cells #[.int .i64 ki, .int .i64 st, .int .i64 ep, .int .i64 vi, .int .i64 fr, .int .i64 le, .slice A es.length c, .slice A' fd.length c'] 25 (0, 0)) := by rw [HW0.out]; exact heap_alloc2_old _ _ _
  have n2 : w0.heap[w.heap.size + 1]? = some (.cells #[.int .i64 ki, .int .i64 st, .int .i64 ep, .int .i64 vi, .int .i64 fr, .int .i64 le, .slice D es.length d, .slice D' fd.length d'] 25 (0, 0)) := by rw [HW0.out]; exact heap_alloc2_new _ _ _
  have hs0 : w0.heap.size = w.heap.size + 2 := by rw [HW0.out]; simp
  have G := Lib.hid (sameEs_any (ha.below hb0 hB1) (hb.below hb0 hB3))
  rw [HW0.out] at G
  have HCA := Lib.hid (fun X (hX : Below w.heap.size w X) k (hk : k < fd.length) => FdB.cells (RdB.below ha' hX hB2) hk)
  have HCB := Lib.hid (fun X (hX : Below w.heap.size w X) k (hk : k < fd.length) => FdB.cells (RdB.below hb' hX hB4) hk)
  obtain ⟨_, _, hv, h1, h2, -⟩ := ha'.len
  injection hv with e1 e2 e3
  subst e1 e3
  clear e2
  obtain ⟨_, _, hv, k1, k2, -⟩ := hb'.len
  injection hv with e1 e2 e3
  subst e1 e3
  clear e2
  unfold maxLen at h2 k2
  have HB0 := Lib.hid hb0
  have N1 := Lib.hid n1
  have N2 := Lib.hid n2
  have HS0 := Lib.hid hs0
  clear ha ha' hb hb' hb0 n1 n2 hs0
  go_enter Tryd.func12, Tryd.ntmps12
  go_wp2_with fail
  refine (G.out).mono ?_
  rintro e w1 ⟨rfl, hb1⟩
  rw [← HW0.out] at hb1
  have hs0 := HS0.out
  have X1 := Lib.hid ((hb1.block w.heap.size (by omega)).trans N1.out)
  have X2 := Lib.hid ((hb1.block (w.heap.size + 1) (by omega)).trans N2.out)
  have HB1 := Lib.hid (HB0.out.trans (hb1.mono HB0.out.size))
  clear hb1 hs0 G
  have a7 : w1.cell? ⟨w.heap.size, 7, none⟩ = some (.slice A' fd.length c') := by rw [Lib.cell_of_heap X1.out]; rfl
  have b7 : w1.cell? ⟨w.heap.size + 1, 7, none⟩ = some (.slice D' fd.length d') := by rw [Lib.cell_of_heap X2.out]; rfl
  go_wp2_with fail
  go_loopw [5] (fun i wr => ∃ k : Nat, k ≤ fd.length ∧ i = .int .i64 k ∧ Still w1 wr) (fun i _ => fd.length - (intOf i).toNat)
  case atStart => exact ⟨0, Nat.zero_le _, rfl, Still.refl _⟩
  case round =>
    obtain ⟨k, hk, rfl, hst⟩ := hrel
    have a7 := (hst.cell ⟨w.heap.size, 7, none⟩).trans a7
    have b7 := (hst.cell ⟨w.heap.size + 1, 7, none⟩).trans b7
    by_cases hlt : k < fd.length
    · obtain ⟨b1, o1, c1, hv1, _, x0, x1⟩ := HCA.out _ HB1.out k hlt
      obtain ⟨b2, o2, c2, hv2, _, y0, y1⟩ := HCB.out _ HB1.out k hlt
      injection hv1 with e1 _ e3
      injection hv2 with e2 _ e4
      subst e1 e2 e3 e4
      have x0 := (hst.cell ⟨b1, o1 + k * 2, none⟩).trans x0
      have y0 := (hst.cell ⟨b2, o2 + k * 2, none⟩).trans y0
      have x1 := (hst.cell ⟨b1, o1 + k * 2 + 1, none⟩).trans x1
      have y1 := (hst.cell ⟨b2, o2 + k * 2 + 1, none⟩).trans y1
      have hii : (k : Int) < (fd.length : Int) := by omega
      generalize fd[k] = ee at *
      obtain ⟨z0, z1⟩ := ee
      dsimp only at x0 x1 y0 y1
      go_wp2_with fail
      go_quiet (fail)
      go_wp2_with fail
      go_roundw
      case rel => exact ⟨k + 1, by omega, by go_num, hst.drewN _⟩
      case measure => simp [intOf]; omega
    · have HST := Lib.hid hst
      clear hst
      go_wp2_with fail
      go_ret
      exact ⟨rfl, HB1.out.trans (HST.out _)⟩
end Go.Proofs.YtkdnhfeamibmdaaDoor

