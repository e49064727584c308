/-
  SameMail of the statements of nets, at two messages that read alike.
-/
import Derived.Test.YtoipjnboekjjaaaDoorMlMem
import Derived.Test.YtoipjnboekjjaaaDoorRcSame
namespace Go.Proofs.YtoipjnboekjjaaaDoor
open Go.RowKit
set_option maxRecDepth 100000 in
set_option maxHeartbeats 4000000 in
theorem sameMail_any (m : Ml) {A A' : Option Addr} {c c' B1 B2 : Nat} {w : World} (ha : EsB B1 w (.slice A m.es.length c) m.es) (hb : EsB B2 w (.slice A' m.es.length c') m.es) (h1 : B1 ≤ w.heap.size) (h2 : B2 ≤ w.heap.size) :
    Calls Tryd.prog 24 #[m.v (.slice A m.es.length c), m.v (.slice A' m.es.length c')] w (NumPost (.bool true) w) := by
  obtain ⟨w0, HW0⟩ : ∃ w0, Hid (w.alloc (.cells (m.cells (.slice A m.es.length c)).toArray 45) = w0) := ⟨_, Lib.hid rfl⟩
  obtain ⟨w1, HW1⟩ : ∃ w1, Hid (w0.alloc (.cells (m.cells (.slice A' m.es.length c')).toArray 45) = w1) := ⟨_, Lib.hid rfl⟩
  have hb0 : Below w.heap.size w w0 := by rw [← HW0.out]; exact (Below.refl _ _).alloc (Nat.le_refl _) _
  have hs0 : w0.heap.size = w.heap.size + 1 := by rw [← HW0.out]; simp
  have hb01 : Below w0.heap.size w0 w1 := by rw [← HW1.out]; exact (Below.refl _ _).alloc (Nat.le_refl _) _
  have hb1 : Below w.heap.size w w1 := hb0.trans (hb01.mono (by omega))
  have hs1 : w1.heap.size = w.heap.size + 2 := by rw [← HW1.out]; simp [hs0]
  have k0 := (show MlBox w0 w.heap.size m (.slice A m.es.length c) by rw [← HW0.out]; exact MlBox.new _ _ _).cell 0
  have X0 : MlBox w1 w.heap.size m (.slice A m.es.length c) := (show MlBox w0 w.heap.size m (.slice A m.es.length c) by rw [← HW0.out]; exact MlBox.new _ _ _).bel hb01 (by omega)
  have X1 : MlBox w1 (w.heap.size + 1) m (.slice A' m.es.length c') := by rw [← HW1.out, ← hs0]; exact MlBox.new _ _ _
  have HC := Lib.hid (fun Y (h : Below w1.heap.size w1 Y) => And.intro (X0.bel h (by omega)) (X1.bel h (by omega)))
  have HSE := Lib.hid (sameEs_any (RdB.below ha hb1 h1 : EsB B1 w1 _ m.es) (RdB.below hb hb1 h2 : EsB B2 w1 _ m.es))
  have HB1 := Lib.hid hb1
  rw [← HW0.out] at HW1
  have hsz : (w.alloc (.cells (m.cells (.slice A m.es.length c)).toArray 45)).heap.size = w.heap.size + 1 := by simp
  clear ha hb hb0 hb01 hb1 X0 X1 hs0 HW0 k0
  obtain ⟨p, q⟩ := HC.out w1 (Below.refl _ _)
  obtain ⟨ki, fr, tt, st, ep, vi, ba, le, sp, es, ⟨oi, os, ox, ok, oa⟩, ai, ac, av⟩ := m
  dsimp only [Ml.v, Ml.cells] at *
  generalize es.length = n at *
  have p0 := p.cell 0
  have p1 := p.cell 1
  have p2 := p.cell 2
  have p3 := p.cell 3
  have p4 := p.cell 4
  have p5 := p.cell 5
  have p6 := p.cell 6
  have p7 := p.cell 7
  have p8 := p.cell 8
  have p9 := p.cell 9
  have q0 := q.cell 0
  have q1 := q.cell 1
  have q2 := q.cell 2
  have q3 := q.cell 3
  have q4 := q.cell 4
  have q5 := q.cell 5
  have q6 := q.cell 6
  have q7 := q.cell 7
  have q8 := q.cell 8
  have q9 := q.cell 9
  simp only [Ml.cells, List.getElem?_cons_zero, List.getElem?_cons_succ] at p0 p1 p2 p3 p4 p5 p6 p7 p8 p9 q0 q1 q2 q3 q4 q5 q6 q7 q8 q9
  clear p q
  go_enter Tryd.func24, Tryd.ntmps24
  go_wp2_with (first | rw [HW1.out] | rw [hsz])
  refine HSE.out.mono ?_
  rintro e w2 ⟨rfl, hb2⟩
  have HB2 := Lib.hid (HB1.out.trans (hb2.mono HB1.out.size))
  obtain ⟨p, q⟩ := HC.out w2 hb2
  have r0 := p.cell 10
  have r1 := p.cell 11
  have r2 := p.cell 12
  have r3 := p.cell 13
  have r4 := p.cell 14
  have r5 := p.cell 15
  have r6 := p.cell 16
  have r7 := p.cell 17
  have s0 := q.cell 10
  have s1 := q.cell 11
  have s2 := q.cell 12
  have s3 := q.cell 13
  have s4 := q.cell 14
  have s5 := q.cell 15
  have s6 := q.cell 16
  have s7 := q.cell 17
  clear p q p0 p1 p2 p3 p4 p5 p6 p7 p8 p9 q0 q1 q2 q3 q4 q5 q6 q7 q8 q9 hb2
  simp only [Ml.cells, List.getElem?_cons_zero, List.getElem?_cons_succ] at r0 r1 r2 r3 r4 r5 r6 r7 s0 s1 s2 s3 s4 s5 s6 s7
  go_wp2_with fail
  go_ret
  exact ⟨rfl, HB2.out⟩
end Go.Proofs.YtoipjnboekjjaaaDoor
