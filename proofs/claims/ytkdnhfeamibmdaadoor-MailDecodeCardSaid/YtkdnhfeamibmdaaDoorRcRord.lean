/-
  The document's reader of marks: Order, and Log.
-/
import Derived.Test.YtkdnhfeamibmdaaDoorRcRdr
import Derived.Test.YtkdnhfeamibmdaaDoorRcGetAll
namespace Go.Proofs.YtkdnhfeamibmdaaDoor
open Go.RowKit
def OrdPost (s : ByteArray) (m a : Nat) (f : Bool) (w : World) (e : Ending) (w' : World) : Prop :=
  ∃ x0 x1 x2 x3 x4 : Int, (ris (bytesOf s) 5 a f).1 = [x0, x1, x2, x3, x4] ∧ e = .returned (.agg #[.int .i64 x0, .int .i64 x1, .int .i64 x2, .int .i64 x3, .int .i64 x4]) ∧ RrAt w' m s (ris (bytesOf s) 5 a f).2.1 (ris (bytesOf s) 5 a f).2.2 ∧ Foot (fun j => j = m) w w'
theorem RrAt.bel {n : Nat} {w w' : World} {m : Nat} {s : ByteArray} {a : Nat} {f : Bool} (h : RrAt w m s a f) (hb : Below n w w') (hm : m < n) : RrAt w' m s a f := (hb.block m hm).trans h
set_option maxRecDepth 100000 in
set_option maxHeartbeats 2000000 in
theorem rorder_any {s : ByteArray} (hs : s.size ≤ 1000000) {m a : Nat} {f : Bool} {w : World} (h : RrAt w m s a f) :
    Calls Tryd.prog 53 #[.pointer (some ⟨m, 0, none⟩)] w (OrdPost s m a f w) := by
  have hmlt := h.lt
  obtain ⟨⟨x0, a1, f1⟩, h0⟩ : ∃ N, ri (bytesOf s) a f = N := ⟨_, rfl⟩
  obtain ⟨⟨x1, a2, f2⟩, h1⟩ : ∃ N, ri (bytesOf s) a1 f1 = N := ⟨_, rfl⟩
  obtain ⟨⟨x2, a3, f3⟩, h2⟩ : ∃ N, ri (bytesOf s) a2 f2 = N := ⟨_, rfl⟩
  obtain ⟨⟨x3, a4, f4⟩, h3⟩ : ∃ N, ri (bytesOf s) a3 f3 = N := ⟨_, rfl⟩
  obtain ⟨⟨x4, a5, f5⟩, h4⟩ : ∃ N, ri (bytesOf s) a4 f4 = N := ⟨_, rfl⟩
  have HN : Hid (ris (bytesOf s) 5 a f = ([x0, x1, x2, x3, x4], a5, f5)) := by show _ = _; simp [ris, h0, h1, h2, h3, h4]
  have G0 := Lib.hid (fun (W : World) (hW : RrAt W m s a f) => rint_any hs hW)
  have G1 := Lib.hid (fun (W : World) (hW : RrAt W m s a1 f1) => rint_any hs hW)
  have G2 := Lib.hid (fun (W : World) (hW : RrAt W m s a2 f2) => rint_any hs hW)
  have G3 := Lib.hid (fun (W : World) (hW : RrAt W m s a3 f3) => rint_any hs hW)
  have G4 := Lib.hid (fun (W : World) (hW : RrAt W m s a4 f4) => rint_any hs hW)
  have K0 := Lib.hid h0
  have K1 := Lib.hid h1
  have K2 := Lib.hid h2
  have K3 := Lib.hid h3
  have K4 := Lib.hid h4
  clear h0 h1 h2 h3 h4
  have hba : Below w.heap.size w (w.alloc (.cells #[.int .i64 0, .int .i64 0, .int .i64 0, .int .i64 0, .int .i64 0] 28)) := (Below.refl _ _).alloc (Nat.le_refl _) _
  have HX0 : Hid ((w.alloc (.cells #[.int .i64 0, .int .i64 0, .int .i64 0, .int .i64 0, .int .i64 0] 28)).heap[w.heap.size]? = some (.cells #[.int .i64 0, .int .i64 0, .int .i64 0, .int .i64 0, .int .i64 0] 28 (0, 0))) := heap_alloc_new _ _
  have HR0 := Lib.hid (h.below hba)
  have HF0 : Hid (Foot (fun j => j = m) w (w.alloc (.cells #[.int .i64 0, .int .i64 0, .int .i64 0, .int .i64 0, .int .i64 0] 28))) := below_foot hba
  have hmn : ¬ w.heap.size = m := by omega
  have HMN := Lib.hid hmn
  clear hba h hmn
  go_enter Tryd.func53, Tryd.ntmps53
  go_wp2_with fail
  refine (G0.out _ HR0.out).mono ?_
  rintro e w1 hp
  unfold IntPost at hp
  rw [K0.out] at hp
  obtain ⟨rfl, hr, hf⟩ := hp
  dsimp only at hr ⊢
  have HR1 := Lib.hid hr
  have HF1 := Lib.hid (HF0.out.trans hf (fun _ _ h => h))
  have HX1 := Lib.hid (hf.kept HX0.out HMN.out)
  clear hr hf
  go_wp2_with fail
  refine (G1.out _ HR1.out).mono ?_
  rintro e w2 hp
  unfold IntPost at hp
  rw [K1.out] at hp
  obtain ⟨rfl, hr, hf⟩ := hp
  dsimp only at hr ⊢
  have HR2 := Lib.hid hr
  have HF2 := Lib.hid (HF1.out.trans hf (fun _ _ h => h))
  have HX2 := Lib.hid (hf.kept HX1.out HMN.out)
  clear hr hf
  go_wp2_with fail
  refine (G2.out _ HR2.out).mono ?_
  rintro e w3 hp
  unfold IntPost at hp
  rw [K2.out] at hp
  obtain ⟨rfl, hr, hf⟩ := hp
  dsimp only at hr ⊢
  have HR3 := Lib.hid hr
  have HF3 := Lib.hid (HF2.out.trans hf (fun _ _ h => h))
  have HX3 := Lib.hid (hf.kept HX2.out HMN.out)
  clear hr hf
  go_wp2_with fail
  refine (G3.out _ HR3.out).mono ?_
  rintro e w4 hp
  unfold IntPost at hp
  rw [K3.out] at hp
  obtain ⟨rfl, hr, hf⟩ := hp
  dsimp only at hr ⊢
  have HR4 := Lib.hid hr
  have HF4 := Lib.hid (HF3.out.trans hf (fun _ _ h => h))
  have HX4 := Lib.hid (hf.kept HX3.out HMN.out)
  clear hr hf
  go_wp2_with fail
  refine (G4.out _ HR4.out).mono ?_
  rintro e w5 hp
  unfold IntPost at hp
  rw [K4.out] at hp
  obtain ⟨rfl, hr, hf⟩ := hp
  dsimp only at hr ⊢
  have HR5 := Lib.hid hr
  have HF5 := Lib.hid (HF4.out.trans hf (fun _ _ h => h))
  have HX5 := Lib.hid (hf.kept HX4.out HMN.out)
  clear hr hf
  have b0 : w5.cell? ⟨w.heap.size, 0, none⟩ = some (.int .i64 0) := by rw [Lib.cell_of_heap HX5.out]; rfl
  have b1 : w5.cell? ⟨w.heap.size, 1, none⟩ = some (.int .i64 0) := by rw [Lib.cell_of_heap HX5.out]; rfl
  have b2 : w5.cell? ⟨w.heap.size, 2, none⟩ = some (.int .i64 0) := by rw [Lib.cell_of_heap HX5.out]; rfl
  have b3 : w5.cell? ⟨w.heap.size, 3, none⟩ = some (.int .i64 0) := by rw [Lib.cell_of_heap HX5.out]; rfl
  have b4 : w5.cell? ⟨w.heap.size, 4, none⟩ = some (.int .i64 0) := by rw [Lib.cell_of_heap HX5.out]; rfl
  have f0' : w5.frozen? ⟨w.heap.size, 0, none⟩ = false := Lib.frozen_of_heap HX5.out _
  have f1' : w5.frozen? ⟨w.heap.size, 1, none⟩ = false := Lib.frozen_of_heap HX5.out _
  have f2' : w5.frozen? ⟨w.heap.size, 2, none⟩ = false := Lib.frozen_of_heap HX5.out _
  have f3' : w5.frozen? ⟨w.heap.size, 3, none⟩ = false := Lib.frozen_of_heap HX5.out _
  have f4' : w5.frozen? ⟨w.heap.size, 4, none⟩ = false := Lib.frozen_of_heap HX5.out _
  go_wp2_with fail
  (try simp only [Exit.inBlock, Exit.then]); refine bodyPost_ret (v := .agg #[.int .i64 x0, .int .i64 x1, .int .i64 x2, .int .i64 x3, .int .i64 x4]) (by rw [results_cell_one rfl]; go_simp) rfl ?_
  exact ⟨x0, x1, x2, x3, x4, by rw [HN.out], rfl, by rw [HN.out]; exact RrAt.bel HR5.out (n := w.heap.size) (by (repeat' (first | (with_reducible exact Below.refl _ _) | (with_reducible refine Below.drew ?_) | (with_reducible refine below_drewN ?_ _) | (with_reducible refine Below.alloc ?_ ?_ _) | (with_reducible refine Below.setCell ?_ ?_ _) | go_size))) hmlt, foot_below HF5.out (by (repeat' (first | (with_reducible exact Below.refl _ _) | (with_reducible refine Below.drew ?_) | (with_reducible refine below_drewN ?_ _) | (with_reducible refine Below.alloc ?_ ?_ _) | (with_reducible refine Below.setCell ?_ ?_ _) | go_size)))⟩
end Go.Proofs.YtkdnhfeamibmdaaDoor

