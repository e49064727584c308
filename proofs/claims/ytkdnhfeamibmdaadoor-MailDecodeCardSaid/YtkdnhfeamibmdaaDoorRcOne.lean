/-
  The closures of read of package records: one entry, one spot.
-/
import Derived.Test.YtkdnhfeamibmdaaDoorRcNext
import Derived.Laws.ResultCell
import Derived.StillTailTactics
import Derived.Deep.RegionHeld3
namespace Go.Proofs.YtkdnhfeamibmdaaDoor
open Go.RowKit
theorem results_cell_one {fn : Func} {p : Tmp} {ty : TypeId} (h : fn.results = #[.cell p ty]) (tmps : Array Value) (P : Program) (w : World) :
    (results fn tmps).run P w = ((asAddr (tmps.getD p undef)).run P w).andThen fun a w₁ => (loadVar ty a).run P w₁ := by
  simp only [results, h]
  simp [Sem.run_bind, Result.andThen]
theorem foot_below {S : Nat → Prop} {w w1 w' : World} (hf : Foot S w w1) (hb : Below w.heap.size w1 w') : Foot S w w' :=
  ⟨hb.os.trans hf.os, hb.tape.trans hf.tape, hb.output.trans hf.output, Nat.le_trans hf.size hb.size, fun k hk hn => (hb.block k hk).trans (hf.block k hk hn)⟩
theorem RdAt.bel {n : Nat} {w w' : World} {m : Nat} {s : ByteArray} {a : Nat} {f : Bool} (h : RdAt w m s a f) (hb : Below n w w') (hm : m < n) : RdAt w' m s a f := (hb.block m hm).trans h
def EnV (x : En) : Value := .agg #[.int .i64 x.ep, .int .i64 x.o.id, .int .i64 x.o.st, .int .i64 x.o.ex, .int .i64 x.o.ki, .int .i64 x.o.ar]
def SpV (x : Sp) : Value := .agg #[.int .i64 x.st, .int .i64 x.ix]
/-- A variable that points to the reader. -/
def PtrVar (w : World) (p m : Nat) : Prop := w.heap[p]? = some (.cells #[.pointer (some ⟨m, 0, none⟩)] 106 (0, 0))
theorem PtrVar.cell {w : World} {p m : Nat} (h : PtrVar w p m) : w.cell? ⟨p, 0, none⟩ = some (.pointer (some ⟨m, 0, none⟩)) := by rw [Lib.cell_of_heap h]; rfl
theorem PtrVar.lt {w : World} {p m : Nat} (h : PtrVar w p m) : p < w.heap.size := (Array.getElem?_eq_some_iff.1 h).1
theorem PtrVar.below {w w' : World} {p m : Nat} (h : PtrVar w p m) (hb : Below w.heap.size w w') : PtrVar w' p m := (hb.block p h.lt).trans h
theorem PtrVar.foot {S : Nat → Prop} {w w' : World} {p m : Nat} (h : PtrVar w p m) (hf : Foot S w w') (hn : ¬ S p) : PtrVar w' p m := hf.kept h hn
def OneE (s : ByteArray) (m a : Nat) (f : Bool) (w : World) (e : Ending) (w' : World) : Prop :=
  e = .returned (EnV (enOf (nx (bytesOf s) 6 a).1)) ∧ RdAt w' m s (nx (bytesOf s) 6 a).2.1 (f || (nx (bytesOf s) 6 a).2.2) ∧ Foot (fun j => j = m) w w'
set_option maxRecDepth 100000 in
set_option maxHeartbeats 2000000 in
theorem one_entry {s : ByteArray} (hs : s.size ≤ 1000000) {m a p : Nat} {f : Bool} {w : World} (h : RdAt w m s a f) (ha : a ≤ s.size) (hp : PtrVar w p m) :
    Calls Tryd.prog 64 #[.pointer (some ⟨p, 0, none⟩)] w (OneE s m a f w) := by
  obtain ⟨w0, HW0⟩ : ∃ w0, Hid (w0 = w.alloc (.cells #[.int .i64 0, .int .i64 0, .int .i64 0, .int .i64 0, .int .i64 0, .int .i64 0] 30)) := ⟨_, Lib.hid rfl⟩
  have hb0 : Below w.heap.size w w0 := by rw [HW0.out]; exact (Below.refl _ _).alloc (Nat.le_refl _) _
  have hs0 : w0.heap.size = w.heap.size + 1 := by rw [HW0.out]; simp
  have B0 : w0.heap[w.heap.size]? = some (.cells #[.int .i64 0, .int .i64 0, .int .i64 0, .int .i64 0, .int .i64 0, .int .i64 0] 30 (0, 0)) := by rw [HW0.out]; exact heap_alloc_new _ _
  have hmlt := h.lt
  have G := Lib.hid (next_any hs (h.below hb0) (show 6 ≤ 6 by omega) ha)
  rw [HW0.out] at G
  have hpc := hp.cell
  have hplt := hp.lt
  have hL := nx_len (bytesOf s) 6 a
  have HV : Hid (EnV (enOf (nx (bytesOf s) 6 a).1) = .agg #[(.int .i64 ((nx (bytesOf s) 6 a).1.getD 0 0)), (.int .i64 ((nx (bytesOf s) 6 a).1.getD 1 0)), (.int .i64 ((nx (bytesOf s) 6 a).1.getD 2 0)), (.int .i64 ((nx (bytesOf s) 6 a).1.getD 3 0)), (.int .i64 ((nx (bytesOf s) 6 a).1.getD 4 0)), (.int .i64 ((nx (bytesOf s) 6 a).1.getD 5 0))]) := rfl
  have HB0 := Lib.hid hb0
  have HS0 := Lib.hid hs0
  have HX0 := Lib.hid B0
  clear h hp hb0 hs0 B0 ha
  go_enter Tryd.func64, Tryd.ntmps64
  go_wp2_with fail
  refine (G.out).mono ?_
  rintro e w1 ⟨g, rfl, hg, hrow, hrd, hft⟩
  rw [← HW0.out] at hg hft
  obtain ⟨N, HN⟩ : ∃ N, Hid (nx (bytesOf s) 6 a = N) := ⟨_, Lib.hid rfl⟩
  rw [HN.out] at hL hrow hrd HV
  obtain ⟨row, b, bad⟩ := N
  dsimp only at hL hrow hrd HV
  obtain ⟨x0, x1, x2, x3, x4, x5, rfl⟩ : ∃ x0 x1 x2 x3 x4 x5, row = [x0, x1, x2, x3, x4, x5] := by
    match row, hL with
    | [x0, x1, x2, x3, x4, x5], _ => exact ⟨x0, x1, x2, x3, x4, x5, rfl⟩
  have HX1 := hft.kept HX0.out (by omega)
  have r0 : w1.cell? ⟨g, 0, none⟩ = some (.int .i64 x0) := by rw [Lib.cell_of_heap hrow]; rfl
  have r1 : w1.cell? ⟨g, 1, none⟩ = some (.int .i64 x1) := by rw [Lib.cell_of_heap hrow]; rfl
  have r2 : w1.cell? ⟨g, 2, none⟩ = some (.int .i64 x2) := by rw [Lib.cell_of_heap hrow]; rfl
  have r3 : w1.cell? ⟨g, 3, none⟩ = some (.int .i64 x3) := by rw [Lib.cell_of_heap hrow]; rfl
  have r4 : w1.cell? ⟨g, 4, none⟩ = some (.int .i64 x4) := by rw [Lib.cell_of_heap hrow]; rfl
  have r5 : w1.cell? ⟨g, 5, none⟩ = some (.int .i64 x5) := by rw [Lib.cell_of_heap hrow]; rfl
  have b0 : w1.cell? ⟨w.heap.size, 0, none⟩ = some (.int .i64 0) := by rw [Lib.cell_of_heap HX1]; rfl
  have b1 : w1.cell? ⟨w.heap.size, 1, none⟩ = some (.int .i64 0) := by rw [Lib.cell_of_heap HX1]; rfl
  have b2 : w1.cell? ⟨w.heap.size, 2, none⟩ = some (.int .i64 0) := by rw [Lib.cell_of_heap HX1]; rfl
  have b3 : w1.cell? ⟨w.heap.size, 3, none⟩ = some (.int .i64 0) := by rw [Lib.cell_of_heap HX1]; rfl
  have b4 : w1.cell? ⟨w.heap.size, 4, none⟩ = some (.int .i64 0) := by rw [Lib.cell_of_heap HX1]; rfl
  have b5 : w1.cell? ⟨w.heap.size, 5, none⟩ = some (.int .i64 0) := by rw [Lib.cell_of_heap HX1]; rfl
  have f0 : w1.frozen? ⟨w.heap.size, 0, none⟩ = false := Lib.frozen_of_heap HX1 _
  have f1 : w1.frozen? ⟨w.heap.size, 1, none⟩ = false := Lib.frozen_of_heap HX1 _
  have f2 : w1.frozen? ⟨w.heap.size, 2, none⟩ = false := Lib.frozen_of_heap HX1 _
  have f3 : w1.frozen? ⟨w.heap.size, 3, none⟩ = false := Lib.frozen_of_heap HX1 _
  have f4 : w1.frozen? ⟨w.heap.size, 4, none⟩ = false := Lib.frozen_of_heap HX1 _
  have f5 : w1.frozen? ⟨w.heap.size, 5, none⟩ = false := Lib.frozen_of_heap HX1 _
  have hz1 : w.heap.size < w1.heap.size := by have := HS0.out; have := hft.size; omega
  have hgl := hrow.lt
  have HRD := Lib.hid hrd
  have HFT : Hid (Foot (fun j => j = m) w w1) := (below_foot HB0.out : Foot (fun j => j = m) w w0).trans hft (fun _ _ h => h)
  have HML := Lib.hid hmlt
  clear hrow hrd hft
  go_wp2_with fail
  have m1 := World.new_ne w1.drew ⟨g, 1, none⟩ (u := .int .i64 x1) r1
  have m2 := World.new_ne w1.drew ⟨g, 2, none⟩ (u := .int .i64 x2) r2
  have m3 := World.new_ne w1.drew ⟨g, 3, none⟩ (u := .int .i64 x3) r3
  have m4 := World.new_ne w1.drew ⟨g, 4, none⟩ (u := .int .i64 x4) r4
  have m5 := World.new_ne w1.drew ⟨g, 5, none⟩ (u := .int .i64 x5) r5
  obtain ⟨w2, HW2⟩ : ∃ w2, Hid (w2 = (w1.alloc (.cells #[.int .i64 x1, .int .i64 x2, .int .i64 x3, .int .i64 x4, .int .i64 x5] 28)).drew) := ⟨_, Lib.hid rfl⟩
  have HB2 : Hid (Below w1.heap.size w1 w2) := by show Below _ _ _; rw [HW2.out]; exact ((Below.refl _ _).alloc (Nat.le_refl _) _).drew
  have hs2 : w.heap.size < w2.heap.size := by have := HB2.out.size; omega
  have HO2 : Hid (w2.heap[w1.heap.size]? = some (.cells #[.int .i64 x1, .int .i64 x2, .int .i64 x3, .int .i64 x4, .int .i64 x5] 28 (0, 0))) := by show _ = _; rw [HW2.out]; exact heap_alloc_new _ _
  have HX2 := Lib.hid ((HB2.out.block w.heap.size hz1).trans HX1)
  have q0 : w2.cell? ⟨g, 0, none⟩ = some (.int .i64 x0) := (HB2.out.cell (p := ⟨g, 0, none⟩) hgl).trans r0
  have HRD := Lib.hid (HRD.out.below HB2.out)
  have HFT := Lib.hid (HFT.out.trans (below_foot HB2.out : Foot (fun j => j = m) w1 w2) (fun _ _ h => h))
  go_region_held3 (fun X => X.cell? ⟨g, 1, none⟩ = some (.int .i64 x1) ∧ X.cell? ⟨g, 2, none⟩ = some (.int .i64 x2) ∧ X.cell? ⟨g, 3, none⟩ = some (.int .i64 x3) ∧ X.cell? ⟨g, 4, none⟩ = some (.int .i64 x4) ∧ X.cell? ⟨g, 5, none⟩ = some (.int .i64 x5)) (go_keep) (fail)
  all_goals
    clear m1 m2 m3 m4 m5 r0 r1 r2 r3 r4 r5 b0 b1 b2 b3 b4 b5 f0 f1 f2 f3 f4 f5
    go_wp2_with fail
    rw [← HW2.out]
    have p0 : w2.cell? ⟨w1.heap.size, 0, none⟩ = some (.int .i64 x1) := by rw [Lib.cell_of_heap HO2.out]; rfl
    have p1 : w2.cell? ⟨w1.heap.size, 1, none⟩ = some (.int .i64 x2) := by rw [Lib.cell_of_heap HO2.out]; rfl
    have p2 : w2.cell? ⟨w1.heap.size, 2, none⟩ = some (.int .i64 x3) := by rw [Lib.cell_of_heap HO2.out]; rfl
    have p3 : w2.cell? ⟨w1.heap.size, 3, none⟩ = some (.int .i64 x4) := by rw [Lib.cell_of_heap HO2.out]; rfl
    have p4 : w2.cell? ⟨w1.heap.size, 4, none⟩ = some (.int .i64 x5) := by rw [Lib.cell_of_heap HO2.out]; rfl
    have b0 : w2.cell? ⟨w.heap.size, 0, none⟩ = some (.int .i64 0) := by rw [Lib.cell_of_heap HX2.out]; rfl
    have b1 : w2.cell? ⟨w.heap.size, 1, none⟩ = some (.int .i64 0) := by rw [Lib.cell_of_heap HX2.out]; rfl
    have b2 : w2.cell? ⟨w.heap.size, 2, none⟩ = some (.int .i64 0) := by rw [Lib.cell_of_heap HX2.out]; rfl
    have b3 : w2.cell? ⟨w.heap.size, 3, none⟩ = some (.int .i64 0) := by rw [Lib.cell_of_heap HX2.out]; rfl
    have b4 : w2.cell? ⟨w.heap.size, 4, none⟩ = some (.int .i64 0) := by rw [Lib.cell_of_heap HX2.out]; rfl
    have b5 : w2.cell? ⟨w.heap.size, 5, none⟩ = some (.int .i64 0) := by rw [Lib.cell_of_heap HX2.out]; rfl
    have f0 : w2.frozen? ⟨w.heap.size, 0, none⟩ = false := Lib.frozen_of_heap HX2.out _
    have f1 : w2.frozen? ⟨w.heap.size, 1, none⟩ = false := Lib.frozen_of_heap HX2.out _
    have f2 : w2.frozen? ⟨w.heap.size, 2, none⟩ = false := Lib.frozen_of_heap HX2.out _
    have f3 : w2.frozen? ⟨w.heap.size, 3, none⟩ = false := Lib.frozen_of_heap HX2.out _
    have f4 : w2.frozen? ⟨w.heap.size, 4, none⟩ = false := Lib.frozen_of_heap HX2.out _
    have f5 : w2.frozen? ⟨w.heap.size, 5, none⟩ = false := Lib.frozen_of_heap HX2.out _
    go_still_tail 5, (by kernel_rfl)
    go_wp2_with fail
    (try simp only [Exit.inBlock, Exit.then]); refine bodyPost_ret (v := .agg #[.int .i64 x0, .int .i64 x1, .int .i64 x2, .int .i64 x3, .int .i64 x4, .int .i64 x5]) (by rw [results_cell_one rfl]; go_simp) rfl ?_
    exact ⟨by rw [HN.out, HV.out]; rfl, by rw [HN.out]; exact RdAt.bel HRD.out (n := w.heap.size) (by (repeat' (first | (with_reducible exact Below.refl _ _) | (with_reducible refine Below.drew ?_) | (with_reducible refine below_drewN ?_ _) | (with_reducible refine Below.alloc ?_ ?_ _) | (with_reducible refine Below.setCell ?_ ?_ _) | go_size))) HML.out, foot_below HFT.out (by (repeat' (first | (with_reducible exact Below.refl _ _) | (with_reducible refine Below.drew ?_) | (with_reducible refine below_drewN ?_ _) | (with_reducible refine Below.alloc ?_ ?_ _) | (with_reducible refine Below.setCell ?_ ?_ _) | go_size)))⟩
def OneS (s : ByteArray) (m a : Nat) (f : Bool) (w : World) (e : Ending) (w' : World) : Prop :=
  e = .returned (SpV (spOf (nx (bytesOf s) 2 a).1)) ∧ RdAt w' m s (nx (bytesOf s) 2 a).2.1 (f || (nx (bytesOf s) 2 a).2.2) ∧ Foot (fun j => j = m) w w'
set_option maxRecDepth 100000 in
set_option maxHeartbeats 2000000 in
theorem one_spot {s : ByteArray} (hs : s.size ≤ 1000000) {m a p : Nat} {f : Bool} {w : World} (h : RdAt w m s a f) (ha : a ≤ s.size) (hp : PtrVar w p m) :
    Calls Tryd.prog 66 #[.pointer (some ⟨p, 0, none⟩)] w (OneS s m a f w) := by
  obtain ⟨w0, HW0⟩ : ∃ w0, Hid (w0 = w.alloc (.cells #[.int .i64 0, .int .i64 0] 32)) := ⟨_, Lib.hid rfl⟩
  have hb0 : Below w.heap.size w w0 := by rw [HW0.out]; exact (Below.refl _ _).alloc (Nat.le_refl _) _
  have hs0 : w0.heap.size = w.heap.size + 1 := by rw [HW0.out]; simp
  have B0 : w0.heap[w.heap.size]? = some (.cells #[.int .i64 0, .int .i64 0] 32 (0, 0)) := by rw [HW0.out]; exact heap_alloc_new _ _
  have hmlt := h.lt
  have G := Lib.hid (next_any hs (h.below hb0) (show 2 ≤ 6 by omega) ha)
  rw [HW0.out] at G
  have hpc := hp.cell
  have hplt := hp.lt
  have hL := nx_len (bytesOf s) 2 a
  have HV : Hid (SpV (spOf (nx (bytesOf s) 2 a).1) = .agg #[(.int .i64 ((nx (bytesOf s) 2 a).1.getD 0 0)), (.int .i64 ((nx (bytesOf s) 2 a).1.getD 1 0))]) := rfl
  have HB0 := Lib.hid hb0
  have HS0 := Lib.hid hs0
  have HX0 := Lib.hid B0
  clear h hp hb0 hs0 B0 ha
  go_enter Tryd.func66, Tryd.ntmps66
  go_wp2_with fail
  refine (G.out).mono ?_
  rintro e w1 ⟨g, rfl, hg, hrow, hrd, hft⟩
  rw [← HW0.out] at hg hft
  obtain ⟨N, HN⟩ : ∃ N, Hid (nx (bytesOf s) 2 a = N) := ⟨_, Lib.hid rfl⟩
  rw [HN.out] at hL hrow hrd HV
  obtain ⟨row, b, bad⟩ := N
  dsimp only at hL hrow hrd HV
  obtain ⟨x0, x1, rfl⟩ : ∃ x0 x1, row = [x0, x1] := by
    match row, hL with
    | [x0, x1], _ => exact ⟨x0, x1, rfl⟩
  have HX1 := hft.kept HX0.out (by omega)
  have r0 : w1.cell? ⟨g, 0, none⟩ = some (.int .i64 x0) := by rw [Lib.cell_of_heap hrow]; rfl
  have r1 : w1.cell? ⟨g, 1, none⟩ = some (.int .i64 x1) := by rw [Lib.cell_of_heap hrow]; rfl
  have b0 : w1.cell? ⟨w.heap.size, 0, none⟩ = some (.int .i64 0) := by rw [Lib.cell_of_heap HX1]; rfl
  have b1 : w1.cell? ⟨w.heap.size, 1, none⟩ = some (.int .i64 0) := by rw [Lib.cell_of_heap HX1]; rfl
  have f0 : w1.frozen? ⟨w.heap.size, 0, none⟩ = false := Lib.frozen_of_heap HX1 _
  have f1 : w1.frozen? ⟨w.heap.size, 1, none⟩ = false := Lib.frozen_of_heap HX1 _
  have hz1 : w.heap.size < w1.heap.size := by have := HS0.out; have := hft.size; omega
  have hgl := hrow.lt
  have HRD := Lib.hid hrd
  have HFT : Hid (Foot (fun j => j = m) w w1) := (below_foot HB0.out : Foot (fun j => j = m) w w0).trans hft (fun _ _ h => h)
  have HML := Lib.hid hmlt
  clear hrow hrd hft
  go_wp2_with fail
  go_still_tail 7, (by kernel_rfl)
  change wpList _ _ _ _ _ w1.drew
  go_wp2_with fail
  (try simp only [Exit.inBlock, Exit.then]); refine bodyPost_ret (v := .agg #[.int .i64 x0, .int .i64 x1]) (by rw [results_cell_one rfl]; go_simp) rfl ?_
  exact ⟨by rw [HN.out, HV.out]; rfl, by rw [HN.out]; exact RdAt.bel HRD.out (n := w.heap.size) (by (repeat' (first | (with_reducible exact Below.refl _ _) | (with_reducible refine Below.drew ?_) | (with_reducible refine below_drewN ?_ _) | (with_reducible refine Below.alloc ?_ ?_ _) | (with_reducible refine Below.setCell ?_ ?_ _) | go_size))) HML.out, foot_below HFT.out (by (repeat' (first | (with_reducible exact Below.refl _ _) | (with_reducible refine Below.drew ?_) | (with_reducible refine below_drewN ?_ _) | (with_reducible refine Below.alloc ?_ ?_ _) | (with_reducible refine Below.setCell ?_ ?_ _) | go_size)))⟩
end Go.Proofs.YtkdnhfeamibmdaaDoor
