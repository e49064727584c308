/-
  What Encode of package records puts of lists: entries and spots, each by a closure.
-/
import Derived.Test.YtkdnhfeamibmdaaDoorRcPut
namespace Go.Proofs.YtkdnhfeamibmdaaDoor
open Go.RowKit
/-- The variable that holds the closure 'put'. -/
def PutVar (w : World) (p b : Nat) : Prop := w.heap[p]? = some (.cells #[.func (.func 24) #[] #[.pointer (some ⟨b, 0, none⟩)]] 63 (0, 0))
theorem PutVar.cell {w : World} {p b : Nat} (h : PutVar w p b) : w.cell? ⟨p, 0, none⟩ = some (.func (.func 24) #[] #[.pointer (some ⟨b, 0, none⟩)]) := by rw [Lib.cell_of_heap h]; rfl
theorem PutVar.kept {w w' : World} {p b : Nat} (h : PutVar w p b) (hk : BKept b w w') (hp : p ≠ b) : PutVar w' p b := hk.at_ h hp (by decide)
theorem PutVar.lt {w : World} {p b : Nat} (h : PutVar w p b) : p < w.heap.size := (Array.getElem?_eq_some_iff.1 h).1
theorem PutVar.below {w w' : World} {p b : Nat} (h : PutVar w p b) (hb : Below w.heap.size w w') : PutVar w' p b := (hb.block p h.lt).trans h
set_option maxRecDepth 100000 in
set_option maxHeartbeats 1000000 in
theorem put_entry {B b p : Nat} {l : List UInt8} {w : World} (x : En) (h : Bld B b l w) (hp : PutVar w p b) (hi : IntsOk x.l) (hlen : l.length ≤ 1000000) (hBw : B ≤ w.heap.size) :
    Calls Tryd.prog 28 #[.agg #[.int .i64 x.ep, .int .i64 x.o.id, .int .i64 x.o.st, .int .i64 x.o.ex, .int .i64 x.o.ki, .int .i64 x.o.ar], .pointer (some ⟨p, 0, none⟩)] w (PcPost B b (l ++ markL x.l) w) := by
  have HI := Lib.hid hi
  obtain ⟨ep, id, os, ex, ki, ar⟩ := x
  simp only [En.l, Od.l] at HI ⊢
  obtain ⟨w0, HW0⟩ : ∃ w0, Hid (w0 = (w.alloc (.cells #[.int .i64 ep, .int .i64 id, .int .i64 os, .int .i64 ex, .int .i64 ki, .int .i64 ar] 30)).alloc (.cells #[.int .i64 id, .int .i64 os, .int .i64 ex, .int .i64 ki, .int .i64 ar] 28)) := ⟨_, Lib.hid rfl⟩
  have hb0 : Below w.heap.size w w0 := by rw [HW0.out]; exact ((Below.refl _ _).alloc (Nat.le_refl _) _).alloc (by simp) _
  have hs0 : w0.heap.size = w.heap.size + 2 := by rw [HW0.out]; simp
  have hbl := h.lt
  obtain ⟨w1, HW1⟩ : ∃ w1, Hid (w1 = w0.alloc (.cells #[.int .i64 ep, .int .i64 id, .int .i64 os, .int .i64 ex, .int .i64 ki, .int .i64 ar] 3)) := ⟨_, Lib.hid rfl⟩
  have hb1 : Below w.heap.size w w1 := by rw [HW1.out]; exact hb0.alloc hb0.size _
  have hr : IntRow w1 w0.heap.size [ep, id, os, ex, ki, ar] := by rw [HW1.out]; exact heap_alloc_new _ _
  have HB1 := Lib.hid (h.later hb1)
  have G := Lib.hid (put_clo HB1.out hr (by omega) HI.out (by simp) hlen (Nat.le_trans hBw hb1.size))
  rw [hs0] at G
  have HPC : Hid (w0.cell? ⟨p, 0, none⟩ = some (.func (.func 24) #[] #[.pointer (some ⟨b, 0, none⟩)])) := (hp.below hb0).cell
  have HPC0 := Lib.hid hp.cell
  have HPL := Lib.hid hp.lt
  have HE := Lib.hid hb1
  have HBB := Lib.hid (show Below B w w1 from hb1.mono (by omega))
  clear h hp hi hb0 hb1 hr
  rw [HW1.out, HW0.out] at G
  rw [HW0.out] at HPC
  have hpc := HPC.out
  go_enter Tryd.func28, Tryd.ntmps28
  go_wp2_with fail
  refine (G.out).mono ?_
  rintro e w2 ⟨rfl, hb2, he2, hk2⟩
  rw [← HW0.out, ← HW1.out] at he2 hk2
  have HB2 := Lib.hid hb2
  have HE2 := Lib.hid (HBB.out.trans he2)
  have HK2 := Lib.hid ((BKept.below HE.out).trans hk2)
  clear hb2 he2 hk2
  go_wp2_with fail
  go_end0
  exact ⟨rfl, HB2.out, HE2.out, HK2.out⟩
set_option maxRecDepth 100000 in
set_option maxHeartbeats 1000000 in
theorem put_spot {B b p : Nat} {l : List UInt8} {w : World} (x : Sp) (h : Bld B b l w) (hp : PutVar w p b) (hi : IntsOk x.l) (hlen : l.length ≤ 1000000) (hBw : B ≤ w.heap.size) :
    Calls Tryd.prog 30 #[.agg #[.int .i64 x.st, .int .i64 x.ix], .pointer (some ⟨p, 0, none⟩)] w (PcPost B b (l ++ markL x.l) w) := by
  have HI := Lib.hid hi
  obtain ⟨st, ix⟩ := x
  simp only [Sp.l] at HI ⊢
  obtain ⟨w0, HW0⟩ : ∃ w0, Hid (w0 = w.alloc (.cells #[.int .i64 st, .int .i64 ix] 32)) := ⟨_, Lib.hid rfl⟩
  have hb0 : Below w.heap.size w w0 := by rw [HW0.out]; exact (Below.refl _ _).alloc (Nat.le_refl _) _
  have hs0 : w0.heap.size = w.heap.size + 1 := by rw [HW0.out]; simp
  have hbl := h.lt
  obtain ⟨w1, HW1⟩ : ∃ w1, Hid (w1 = w0.alloc (.cells #[.int .i64 st, .int .i64 ix] 3)) := ⟨_, Lib.hid rfl⟩
  have hb1 : Below w.heap.size w w1 := by rw [HW1.out]; exact hb0.alloc hb0.size _
  have hr : IntRow w1 w0.heap.size [st, ix] := by rw [HW1.out]; exact heap_alloc_new _ _
  have HB1 := Lib.hid (h.later hb1)
  have G := Lib.hid (put_clo HB1.out hr (by omega) HI.out (by simp) hlen (Nat.le_trans hBw hb1.size))
  rw [hs0] at G
  have HPC : Hid (w0.cell? ⟨p, 0, none⟩ = some (.func (.func 24) #[] #[.pointer (some ⟨b, 0, none⟩)])) := (hp.below hb0).cell
  have HPC0 := Lib.hid hp.cell
  have HPL := Lib.hid hp.lt
  have HE := Lib.hid hb1
  have HBB := Lib.hid (show Below B w w1 from hb1.mono (by omega))
  clear h hp hi hb0 hb1 hr
  rw [HW1.out, HW0.out] at G
  rw [HW0.out] at HPC
  have hpc := HPC.out
  go_enter Tryd.func30, Tryd.ntmps30
  go_wp2_with fail
  refine (G.out).mono ?_
  rintro e w2 ⟨rfl, hb2, he2, hk2⟩
  rw [← HW0.out, ← HW1.out] at he2 hk2
  have HB2 := Lib.hid hb2
  have HE2 := Lib.hid (HBB.out.trans he2)
  have HK2 := Lib.hid ((BKept.below HE.out).trans hk2)
  clear hb2 he2 hk2
  go_wp2_with fail
  go_end0
  exact ⟨rfl, HB2.out, HE2.out, HK2.out⟩
end Go.Proofs.YtkdnhfeamibmdaaDoor
