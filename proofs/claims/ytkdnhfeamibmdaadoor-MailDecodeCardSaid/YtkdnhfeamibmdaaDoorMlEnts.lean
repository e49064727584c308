/-
  allowEntries of package mail: by Check of a view's record.
-/
import Derived.Test.YtkdnhfeamibmdaaDoorMlNums
import Derived.Test.YtkdnhfeamibmdaaDoorRcCheck
namespace Go.Proofs.YtkdnhfeamibmdaaDoor
open Go.RowKit
theorem fdb_none (B : Nat) (w : World) : FdB B w (.slice none 0 0) [] := ⟨none, 0, rfl, Nat.le_refl _, Nat.zero_le _, fun _ => ⟨rfl, rfl⟩, fun h => by simp at h⟩
set_option maxRecDepth 100000 in
set_option maxHeartbeats 8000000 in
theorem allowEntries_any (f : Nat) (hf : FB f) (m : Ml) (A : Option Addr) (c : Nat) {B : Nat} {w : World} (hA : AskM w) (hE : EsB B w (.slice A m.es.length c) m.es) (hB : B ≤ w.heap.size) (hn : m.es.length ≤ 100000) :
    Calls Tryd.prog 48 #[.int .u64 f, m.v (.slice A m.es.length c)] w (NumPost (.bool (entsA f m.st m.ep m.ba m.le m.es)) w) := by
  have HF6 : Hid (bits .and .u64 (f : Int) 64 = if f.testBit 6 then 64 else 0) := hf 6 (by omega)
  have HF3 : Hid (bits .and .u64 (f : Int) 8 = if f.testBit 3 then 8 else 0) := hf 3 (by omega)
  have HR : Hid (entsA f m.st m.ep m.ba m.le m.es = if f.testBit 6 then ((f.testBit 3 || decide (m.le ≤ (m.es.length : Int))) && (viewR m.st m.ep m.ba m.es).may) else decide (m.es.length = 0)) := rfl
  have HER := Lib.hid (show (viewR m.st m.ep m.ba m.es).err = if (viewR m.st m.ep m.ba m.es).may then 0 else 2 from rfl)
  have GC := Lib.hid (fun X (hX : Below w.heap.size w X) => recCheck_any (viewR m.st m.ep m.ba m.es) (hA.keep hX).rc (RdB.mono (RdB.below hE hX hB) (Nat.le_trans hB hX.size) : EsB X.heap.size X (.slice A m.es.length c) (viewR m.st m.ep m.ba m.es).es) (fdb_none _ X : FdB X.heap.size X _ (viewR m.st m.ep m.ba m.es).fd) hn (by simp [viewR]))
  simp only [Rec.v, viewR] at GC
  generalize entsA f m.st m.ep m.ba m.le m.es = R at *
  change Hid (∀ X, Below w.heap.size w X → Calls Tryd.prog 10 #[.agg #[.int .i64 2, .int .i64 m.st, .int .i64 m.ep, .int .i64 0, .int .i64 m.ba, .int .i64 0, .slice A m.es.length c, .slice none 0 0]] X (NumPost (.int .i64 (viewR m.st m.ep m.ba m.es).err) X)) at GC
  generalize (viewR m.st m.ep m.ba m.es).err = er at *
  generalize (viewR m.st m.ep m.ba m.es).may = my at *
  generalize f.testBit 6 = b6 at *
  generalize f.testBit 3 = b3 at *
  generalize (f : Int) = F at *
  obtain ⟨_, _, hv, h1, h2, -⟩ := hE.len
  injection hv with e1 e2 e3
  subst e1 e3
  clear e2 hf f hA hE
  unfold maxLen at h2
  obtain ⟨ki, fr, tt, st, ep, vi, ba, le, sp, es, ⟨oi, os, ox, ok, oa⟩, ai, ac, av⟩ := m
  dsimp only [Ml.v, Ml.cells] at *
  generalize es.length = n at *
  obtain ⟨w0, HW0⟩ : ∃ w0, Hid (w.alloc (.cells #[.int .i64 ki, .int .i64 fr, .int .i64 tt, .int .i64 st, .int .i64 ep, .int .i64 vi, .int .i64 ba, .int .i64 le, .int .i64 sp, .slice A n c, .int .i64 oi, .int .i64 os, .int .i64 ox, .int .i64 ok, .int .i64 oa, .int .i64 ai, .int .i64 ac, .int .i64 av] 45) = w0) := ⟨_, Lib.hid rfl⟩
  have hb0 : Below w.heap.size w w0 := by rw [← HW0.out]; exact (Below.refl _ _).alloc (Nat.le_refl _) _
  have B0 : w0.heap[w.heap.size]? = some (.cells #[.int .i64 ki, .int .i64 fr, .int .i64 tt, .int .i64 st, .int .i64 ep, .int .i64 vi, .int .i64 ba, .int .i64 le, .int .i64 sp, .slice A n c, .int .i64 oi, .int .i64 os, .int .i64 ox, .int .i64 ok, .int .i64 oa, .int .i64 ai, .int .i64 ac, .int .i64 av] 45 (0, 0)) := by rw [← HW0.out]; exact heap_alloc_new _ _
  have c3 : w0.cell? ⟨w.heap.size, 3, none⟩ = some (.int .i64 st) := by rw [Lib.cell_of_heap B0]; rfl
  have c4 : w0.cell? ⟨w.heap.size, 4, none⟩ = some (.int .i64 ep) := by rw [Lib.cell_of_heap B0]; rfl
  have c6 : w0.cell? ⟨w.heap.size, 6, none⟩ = some (.int .i64 ba) := by rw [Lib.cell_of_heap B0]; rfl
  have c7 : w0.cell? ⟨w.heap.size, 7, none⟩ = some (.int .i64 le) := by rw [Lib.cell_of_heap B0]; rfl
  have c9 : w0.cell? ⟨w.heap.size, 9, none⟩ = some (.slice A n c) := by rw [Lib.cell_of_heap B0]; rfl
  have HB0 := Lib.hid hb0
  clear hb0 B0
  cases b6
  · have hF : bits .and .u64 F 64 = 0 := HF6.out
    have HR2 : Hid (R = decide (n = 0)) := HR.out
    clear HR HER GC HF6 HF3
    by_cases h0 : n = 0
    · subst h0
      go_enter Tryd.func48, Tryd.ntmps48
      go_wp2_with (rw [HW0.out])
      go_ret
      exact ⟨by rw [HR2.out]; rfl, HB0.out⟩
    · have t : ((n : Int) == 0) = false := by simp; omega
      have t' : decide (n = 0) = false := by simp [h0]
      go_enter Tryd.func48, Tryd.ntmps48
      go_wp2_with (rw [HW0.out])
      go_ret
      exact ⟨by rw [HR2.out, t']; rfl, HB0.out⟩
  have hF : bits .and .u64 F 64 = 64 := HF6.out
  have HRR : Hid (R = ((b3 || decide (le ≤ (n : Int))) && my)) := HR.out
  obtain ⟨w1, HW1⟩ : ∃ w1, Hid (w0.alloc (.cells #[.int .i64 2, .int .i64 st, .int .i64 ep, .int .i64 0, .int .i64 ba, .int .i64 0, .slice A n c, .slice none 0 0] 25) = w1) := ⟨_, Lib.hid rfl⟩
  have hb1 : Below w.heap.size w w1 := by rw [← HW1.out]; exact HB0.out.alloc HB0.out.size _
  have B1 : w1.heap[w0.heap.size]? = some (.cells #[.int .i64 2, .int .i64 st, .int .i64 ep, .int .i64 0, .int .i64 ba, .int .i64 0, .slice A n c, .slice none 0 0] 25 (0, 0)) := by rw [← HW1.out]; exact heap_alloc_new _ _
  have HB1 := Lib.hid hb1
  have G := Lib.hid (GC.out _ hb1)
  have r0 : w1.cell? ⟨w0.heap.size, 0, none⟩ = some (.int .i64 2) := by rw [Lib.cell_of_heap B1]; rfl
  have r1 : w1.cell? ⟨w0.heap.size, 1, none⟩ = some (.int .i64 st) := by rw [Lib.cell_of_heap B1]; rfl
  have r2 : w1.cell? ⟨w0.heap.size, 2, none⟩ = some (.int .i64 ep) := by rw [Lib.cell_of_heap B1]; rfl
  have r3 : w1.cell? ⟨w0.heap.size, 3, none⟩ = some (.int .i64 0) := by rw [Lib.cell_of_heap B1]; rfl
  have r4 : w1.cell? ⟨w0.heap.size, 4, none⟩ = some (.int .i64 ba) := by rw [Lib.cell_of_heap B1]; rfl
  have r5 : w1.cell? ⟨w0.heap.size, 5, none⟩ = some (.int .i64 0) := by rw [Lib.cell_of_heap B1]; rfl
  have r6 : w1.cell? ⟨w0.heap.size, 6, none⟩ = some (.slice A n c) := by rw [Lib.cell_of_heap B1]; rfl
  have r7 : w1.cell? ⟨w0.heap.size, 7, none⟩ = some (.slice none 0 0) := by rw [Lib.cell_of_heap B1]; rfl
  clear hb1 B1 HR HF6 GC
  cases b3
  · have hF3 : bits .and .u64 F 8 = 0 := HF3.out
    by_cases hl : (n : Int) < le
    · have t : decide ((n : Int) < le) = true := decide_eq_true hl
      go_enter Tryd.func48, Tryd.ntmps48
      go_wp2_with (rw [HW0.out])
      go_ret
      exact ⟨by rw [HRR.out, show decide (le ≤ (n : Int)) = false from decide_eq_false (by omega)]; rfl, HB0.out⟩
    · have t : decide ((n : Int) < le) = false := decide_eq_false hl
      have HR3 : Hid (R = my) := by show _ = _; rw [HRR.out, show decide (le ≤ (n : Int)) = true from decide_eq_true (by omega)]; simp
      clear HRR hl
      cases my
      all_goals
        obtain rfl := HER.out
        go_enter Tryd.func48, Tryd.ntmps48
        go_wp2_with (first | rw [HW0.out] | rw [HW1.out])
        refine (G.out).mono ?_
        rintro e w2 ⟨rfl, hb2⟩
        go_wp2_with fail
        go_ret
        exact ⟨by rw [HR3.out]; rfl, HB1.out.trans (hb2.mono HB1.out.size)⟩
  · have hF3 : bits .and .u64 F 8 = 8 := HF3.out
    have HR3 : Hid (R = my) := by show _ = _; rw [HRR.out]; simp
    clear HRR
    cases my
    all_goals
      obtain rfl := HER.out
      go_enter Tryd.func48, Tryd.ntmps48
      go_wp2_with (first | rw [HW0.out] | rw [HW1.out])
      refine (G.out).mono ?_
      rintro e w2 ⟨rfl, hb2⟩
      go_wp2_with fail
      go_ret
      exact ⟨by rw [HR3.out]; rfl, HB1.out.trans (hb2.mono HB1.out.size)⟩
end Go.Proofs.YtkdnhfeamibmdaaDoor
