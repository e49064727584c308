/-
  allowNumbers of package mail: by the table of what is asked of a message's numbers.
-/
import Derived.Test.YtkdnhfeamibmdaaDoorMlMem
import Derived.Test.YtkdnhfeamibmdaaDoorOCheck
namespace Go.Proofs.YtkdnhfeamibmdaaDoor
open Go.RowKit
theorem mask_ix0 (X : World) : (Instr.index 123 (.agg #[.int .u64 1, .int .i64 0, .int .i64 3, .int .u64 2, .int .i64 1, .int .i64 1048576, .int .u64 4, .int .i64 0, .int .i64 1048576, .int .u64 8, .int .i64 0, .int .i64 64, .int .u64 16, .int .i64 0, .int .i64 64, .int .u64 32, .int .i64 0, .int .i64 1073741824]) (.int .i64 0)).run Tryd.prog X = .ok (.agg #[.int .u64 1, .int .i64 0, .int .i64 3]) X := by kernel_rfl
theorem mask_ix1 (X : World) : (Instr.index 123 (.agg #[.int .u64 1, .int .i64 0, .int .i64 3, .int .u64 2, .int .i64 1, .int .i64 1048576, .int .u64 4, .int .i64 0, .int .i64 1048576, .int .u64 8, .int .i64 0, .int .i64 64, .int .u64 16, .int .i64 0, .int .i64 64, .int .u64 32, .int .i64 0, .int .i64 1073741824]) (.int .i64 1)).run Tryd.prog X = .ok (.agg #[.int .u64 2, .int .i64 1, .int .i64 1048576]) X := by kernel_rfl
theorem mask_ix2 (X : World) : (Instr.index 123 (.agg #[.int .u64 1, .int .i64 0, .int .i64 3, .int .u64 2, .int .i64 1, .int .i64 1048576, .int .u64 4, .int .i64 0, .int .i64 1048576, .int .u64 8, .int .i64 0, .int .i64 64, .int .u64 16, .int .i64 0, .int .i64 64, .int .u64 32, .int .i64 0, .int .i64 1073741824]) (.int .i64 2)).run Tryd.prog X = .ok (.agg #[.int .u64 4, .int .i64 0, .int .i64 1048576]) X := by kernel_rfl
theorem mask_ix3 (X : World) : (Instr.index 123 (.agg #[.int .u64 1, .int .i64 0, .int .i64 3, .int .u64 2, .int .i64 1, .int .i64 1048576, .int .u64 4, .int .i64 0, .int .i64 1048576, .int .u64 8, .int .i64 0, .int .i64 64, .int .u64 16, .int .i64 0, .int .i64 64, .int .u64 32, .int .i64 0, .int .i64 1073741824]) (.int .i64 3)).run Tryd.prog X = .ok (.agg #[.int .u64 8, .int .i64 0, .int .i64 64]) X := by kernel_rfl
theorem mask_ix4 (X : World) : (Instr.index 123 (.agg #[.int .u64 1, .int .i64 0, .int .i64 3, .int .u64 2, .int .i64 1, .int .i64 1048576, .int .u64 4, .int .i64 0, .int .i64 1048576, .int .u64 8, .int .i64 0, .int .i64 64, .int .u64 16, .int .i64 0, .int .i64 64, .int .u64 32, .int .i64 0, .int .i64 1073741824]) (.int .i64 4)).run Tryd.prog X = .ok (.agg #[.int .u64 16, .int .i64 0, .int .i64 64]) X := by kernel_rfl
theorem mask_ix5 (X : World) : (Instr.index 123 (.agg #[.int .u64 1, .int .i64 0, .int .i64 3, .int .u64 2, .int .i64 1, .int .i64 1048576, .int .u64 4, .int .i64 0, .int .i64 1048576, .int .u64 8, .int .i64 0, .int .i64 64, .int .u64 16, .int .i64 0, .int .i64 64, .int .u64 32, .int .i64 0, .int .i64 1073741824]) (.int .i64 5)).run Tryd.prog X = .ok (.agg #[.int .u64 32, .int .i64 0, .int .i64 1073741824]) X := by kernel_rfl
def numsL (f : Nat) (st ep vi ba le sp : Int) : List Bool := [fld (f.testBit 0) 0 3 st, fld (f.testBit 1) 1 1048576 ep, fld (f.testBit 2) 0 1048576 vi, fld (f.testBit 3) 0 64 ba, fld (f.testBit 4) 0 64 le, fld (f.testBit 5) 0 1073741824 sp]
theorem numsL_all (f : Nat) (st ep vi ba le sp : Int) : numsA f st ep vi ba le sp = (numsL f st ep vi ba le sp).all id := by simp [numsA, numsL]
theorem numsL_no {f : Nat} {st ep vi ba le sp : Int} {k : Nat} (hk : (numsL f st ep vi ba le sp)[k]? = some false) : numsA f st ep vi ba le sp = false := by
  rw [numsL_all, List.all_eq_false]
  obtain ⟨h, e⟩ := List.getElem?_eq_some_iff.1 hk
  exact ⟨_, List.getElem_mem h, by rw [e]; simp⟩
theorem numsL_yes {f : Nat} {st ep vi ba le sp : Int} {k : Nat} (h : ((numsL f st ep vi ba le sp).take k).all id = true) (hk : (numsL f st ep vi ba le sp)[k]? = some true) : ((numsL f st ep vi ba le sp).take (k + 1)).all id = true := by
  obtain ⟨hl, e⟩ := List.getElem?_eq_some_iff.1 hk
  rw [List.take_succ_eq_append_getElem hl, List.all_append, h, e]
  rfl
/-- What a kind's bits say, one by one. -/
def FB (f : Nat) : Prop := ∀ i, i < 9 → bits .and .u64 (f : Int) ((2 ^ i : Nat) : Int) = if f.testBit i then ((2 ^ i : Nat) : Int) else 0
theorem fb_all {f : Nat} (h : f ∈ [35, 119, 1, 3, 123, 51, 19, 128, 257, 0]) : FB f := by
  simp only [List.mem_cons, List.not_mem_nil, or_false] at h
  rcases h with rfl | rfl | rfl | rfl | rfl | rfl | rfl | rfl | rfl | rfl <;>
  · intro i hi
    match i, hi with
    | 0, _ => decide +kernel
    | 1, _ => decide +kernel
    | 2, _ => decide +kernel
    | 3, _ => decide +kernel
    | 4, _ => decide +kernel
    | 5, _ => decide +kernel
    | 6, _ => decide +kernel
    | 7, _ => decide +kernel
    | 8, _ => decide +kernel
set_option maxRecDepth 100000 in
set_option maxHeartbeats 8000000 in
theorem allowNumbers_any (f : Nat) (hf : FB f) (m : Ml) (A : Option Addr) (c : Nat) (w : World) (hA : AskM w) : Calls Tryd.prog 47 #[.int .u64 f, m.v (.slice A m.es.length c)] w (NumPost (.bool (numsA f m.st m.ep m.vi m.ba m.le m.sp)) w) := by
  have HNO := Lib.hid (fun k h => numsL_no (f := f) (st := m.st) (ep := m.ep) (vi := m.vi) (ba := m.ba) (le := m.le) (sp := m.sp) (k := k) h)
  have HYES := Lib.hid (fun k h h2 => numsL_yes (f := f) (st := m.st) (ep := m.ep) (vi := m.vi) (ba := m.ba) (le := m.le) (sp := m.sp) (k := k) h h2)
  have HALL := Lib.hid (numsL_all f m.st m.ep m.vi m.ba m.le m.sp)
  have HLEN : Hid ((numsL f m.st m.ep m.vi m.ba m.le m.sp).length = 6) := rfl
  have HF0 : Hid (bits .and .u64 (f : Int) 1 = if f.testBit 0 then 1 else 0) := hf 0 (by omega)
  have HE0 : Hid ((numsL f m.st m.ep m.vi m.ba m.le m.sp)[0]? = some (fld (f.testBit 0) 0 3 m.st)) := rfl
  have HF1 : Hid (bits .and .u64 (f : Int) 2 = if f.testBit 1 then 2 else 0) := hf 1 (by omega)
  have HE1 : Hid ((numsL f m.st m.ep m.vi m.ba m.le m.sp)[1]? = some (fld (f.testBit 1) 1 1048576 m.ep)) := rfl
  have HF2 : Hid (bits .and .u64 (f : Int) 4 = if f.testBit 2 then 4 else 0) := hf 2 (by omega)
  have HE2 : Hid ((numsL f m.st m.ep m.vi m.ba m.le m.sp)[2]? = some (fld (f.testBit 2) 0 1048576 m.vi)) := rfl
  have HF3 : Hid (bits .and .u64 (f : Int) 8 = if f.testBit 3 then 8 else 0) := hf 3 (by omega)
  have HE3 : Hid ((numsL f m.st m.ep m.vi m.ba m.le m.sp)[3]? = some (fld (f.testBit 3) 0 64 m.ba)) := rfl
  have HF4 : Hid (bits .and .u64 (f : Int) 16 = if f.testBit 4 then 16 else 0) := hf 4 (by omega)
  have HE4 : Hid ((numsL f m.st m.ep m.vi m.ba m.le m.sp)[4]? = some (fld (f.testBit 4) 0 64 m.le)) := rfl
  have HF5 : Hid (bits .and .u64 (f : Int) 32 = if f.testBit 5 then 32 else 0) := hf 5 (by omega)
  have HE5 : Hid ((numsL f m.st m.ep m.vi m.ba m.le m.sp)[5]? = some (fld (f.testBit 5) 0 1073741824 m.sp)) := rfl
  generalize numsA f m.st m.ep m.vi m.ba m.le m.sp = R at *
  generalize numsL f m.st m.ep m.vi m.ba m.le m.sp = L at *
  generalize f.testBit 0 = b0 at *
  generalize f.testBit 1 = b1 at *
  generalize f.testBit 2 = b2 at *
  generalize f.testBit 3 = b3 at *
  generalize f.testBit 4 = b4 at *
  generalize f.testBit 5 = b5 at *
  generalize (f : Int) = F at *
  clear hf f
  obtain ⟨ki, fr, tt, st, ep, vi, ba, le, sp, es, ⟨oi, os, ox, ok, oa⟩, ai, ac, av⟩ := m
  dsimp only [Ml.v, Ml.cells] at *
  generalize es.length = n at *
  obtain ⟨w0, HW0⟩ : ∃ w0, Hid (w.alloc (.cells #[.int .i64 ki, .int .i64 fr, .int .i64 tt, .int .i64 st, .int .i64 ep, .int .i64 vi, .int .i64 ba, .int .i64 le, .int .i64 sp, .slice A n c, .int .i64 oi, .int .i64 os, .int .i64 ox, .int .i64 ok, .int .i64 oa, .int .i64 ai, .int .i64 ac, .int .i64 av] 45) = w0) := ⟨_, Lib.hid rfl⟩
  obtain ⟨w1, HW1⟩ : ∃ w1, Hid (w0.alloc (.cells #[.int .i64 st, .int .i64 ep, .int .i64 vi, .int .i64 ba, .int .i64 le, .int .i64 sp] 121) = w1) := ⟨_, Lib.hid rfl⟩
  have hb0 : Below w.heap.size w w0 := by rw [← HW0.out]; exact (Below.refl _ _).alloc (Nat.le_refl _) _
  have hs0 : w0.heap.size = w.heap.size + 1 := by rw [← HW0.out]; simp
  have hb1 : Below w.heap.size w w1 := by rw [← HW1.out]; exact hb0.alloc (by omega) _
  have hs1 : w1.heap.size = w.heap.size + 2 := by rw [← HW1.out]; simp [hs0]
  have B0 : w0.heap[w.heap.size]? = some (.cells #[.int .i64 ki, .int .i64 fr, .int .i64 tt, .int .i64 st, .int .i64 ep, .int .i64 vi, .int .i64 ba, .int .i64 le, .int .i64 sp, .slice A n c, .int .i64 oi, .int .i64 os, .int .i64 ox, .int .i64 ok, .int .i64 oa, .int .i64 ai, .int .i64 ac, .int .i64 av] 45 (0, 0)) := by rw [← HW0.out]; exact heap_alloc_new _ _
  have B1 : w1.heap[w.heap.size + 1]? = some (.cells #[.int .i64 st, .int .i64 ep, .int .i64 vi, .int .i64 ba, .int .i64 le, .int .i64 sp] 121 (0, 0)) := by rw [← HW1.out, ← hs0]; exact heap_alloc_new _ _
  have HB1 := Lib.hid hb1
  have HX1 := Lib.hid B1
  have HLD := Lib.hid (hA.masks.keep hb1).load
  have c3 : w0.cell? ⟨w.heap.size, 3, none⟩ = some (.int .i64 st) := by rw [Lib.cell_of_heap B0]; rfl
  have c4 : w0.cell? ⟨w.heap.size, 4, none⟩ = some (.int .i64 ep) := by rw [Lib.cell_of_heap B0]; rfl
  have c5 : w0.cell? ⟨w.heap.size, 5, none⟩ = some (.int .i64 vi) := by rw [Lib.cell_of_heap B0]; rfl
  have c6 : w0.cell? ⟨w.heap.size, 6, none⟩ = some (.int .i64 ba) := by rw [Lib.cell_of_heap B0]; rfl
  have c7 : w0.cell? ⟨w.heap.size, 7, none⟩ = some (.int .i64 le) := by rw [Lib.cell_of_heap B0]; rfl
  have c8 : w0.cell? ⟨w.heap.size, 8, none⟩ = some (.int .i64 sp) := by rw [Lib.cell_of_heap B0]; rfl
  clear hA hb0 hb1 B1 B0
  go_enter Tryd.func47, Tryd.ntmps47
  go_wp2_with (first | rw [HW0.out] | rw [HW1.out] | (refine wpList_load_run rfl 123 _ rfl ⟨7, 0, none⟩ rfl HLD.out ?_))
  unfold masksL
  clear c3 c4 c5 c6 c7 c8
  go_loopw [22] (fun i wr => ∃ k : Nat, k ≤ 6 ∧ i = .int .i64 k ∧ Hid ((L.take k).all id = true) ∧ Below w1.heap.size w1 wr) (fun i _ => 6 - (intOf i).toNat)
  case atStart => exact ⟨0, Nat.zero_le _, rfl, Lib.hid rfl, Below.refl _ _⟩
  case round =>
    obtain ⟨k, hk, rfl, hall, hbel⟩ := hrel
    have HBE := Lib.hid (HB1.out.trans (hbel.mono (by omega)))
    have hszr := hbel.size
    have HXR := (hbel.block (w.heap.size + 1) (by omega)).trans HX1.out
    have hlt : w.heap.size + 1 < wr.heap.size := by omega
    have p0 : wr.cell? ⟨w.heap.size + 1, 0, none⟩ = some (.int .i64 st) := by rw [Lib.cell_of_heap HXR]; rfl
    have p1 : wr.cell? ⟨w.heap.size + 1, 1, none⟩ = some (.int .i64 ep) := by rw [Lib.cell_of_heap HXR]; rfl
    have p2 : wr.cell? ⟨w.heap.size + 1, 2, none⟩ = some (.int .i64 vi) := by rw [Lib.cell_of_heap HXR]; rfl
    have p3 : wr.cell? ⟨w.heap.size + 1, 3, none⟩ = some (.int .i64 ba) := by rw [Lib.cell_of_heap HXR]; rfl
    have p4 : wr.cell? ⟨w.heap.size + 1, 4, none⟩ = some (.int .i64 le) := by rw [Lib.cell_of_heap HXR]; rfl
    have p5 : wr.cell? ⟨w.heap.size + 1, 5, none⟩ = some (.int .i64 sp) := by rw [Lib.cell_of_heap HXR]; rfl
    have HBL := Lib.hid hbel
    clear hbel HXR HX1 HB1 HLD hszr
    obtain rfl | rfl | rfl | rfl | rfl | rfl | rfl : k = 0 ∨ k = 1 ∨ k = 2 ∨ k = 3 ∨ k = 4 ∨ k = 5 ∨ k = 6 := by omega

    · have ix := mask_ix0
      clear p1 p2 p3 p4 p5
      cases b0
      · have hF : bits .and .u64 F 1 = 0 := HF0.out
        by_cases hx : st = 0
        · have HY := Lib.hid (HYES.out 0 hall.out (HE0.out.trans (by rw [hx]; rfl)))
          have t : (st == 0) = true := by simp [hx]
          have t' : decide (st = 0) = true := by simp [hx]
          subst hx
          go_wp2_with fail
          go_quiet (fail)
          go_wp2_with fail
          go_roundw
          case rel => exact ⟨1, by omega, rfl, HY, by repeat' (first | (with_reducible exact HBL.out) | (with_reducible refine below_drewN ?_ _) | (with_reducible refine Below.alloc ?_ ?_ _) | (with_reducible refine Below.setCell ?_ ?_ _) | go_size)⟩
          case measure => simp [intOf]
        · have HN := Lib.hid (HNO.out 0 (HE0.out.trans (by unfold fld; simp [hx])))
          have t : (st == 0) = false := by simp [hx]
          have t' : decide (st = 0) = false := by simp [hx]
          go_wp2_with fail
          go_ret
          exact ⟨by rw [HN.out]; rfl, by repeat' (first | (with_reducible exact HBE.out) | (with_reducible refine below_drewN ?_ _) | (with_reducible refine Below.alloc ?_ ?_ _) | (with_reducible refine Below.setCell ?_ ?_ _) | go_size)⟩
      · have hF : bits .and .u64 F 1 = 1 := HF0.out
        by_cases h1 : st < 0
        · have HN := Lib.hid (HNO.out 0 (HE0.out.trans (by unfold fld inb; simp; omega)))
          have t : decide (st < 0) = true := decide_eq_true h1
          go_wp2_with fail
          go_quiet (fail)
          go_wp2_with fail
          go_ret
          exact ⟨by rw [HN.out]; rfl, by repeat' (first | (with_reducible exact HBE.out) | (with_reducible refine below_drewN ?_ _) | (with_reducible refine Below.alloc ?_ ?_ _) | (with_reducible refine Below.setCell ?_ ?_ _) | go_size)⟩
        · have t : decide (st < 0) = false := decide_eq_false h1
          by_cases h2 : 3 < st
          · have HN := Lib.hid (HNO.out 0 (HE0.out.trans (by unfold fld inb; simp; omega)))
            have t2 : decide (3 < st) = true := decide_eq_true h2
            go_wp2_with fail
            go_quiet (fail)
            go_wp2_with fail
            go_ret
            exact ⟨by rw [HN.out]; rfl, by repeat' (first | (with_reducible exact HBE.out) | (with_reducible refine below_drewN ?_ _) | (with_reducible refine Below.alloc ?_ ?_ _) | (with_reducible refine Below.setCell ?_ ?_ _) | go_size)⟩
          · have HY := Lib.hid (HYES.out 0 hall.out (HE0.out.trans (by unfold fld inb; simp; omega)))
            have t2 : decide (3 < st) = false := decide_eq_false h2
            go_wp2_with fail
            go_quiet (fail)
            go_wp2_with fail
            go_roundw
            case rel => exact ⟨1, by omega, rfl, HY, by repeat' (first | (with_reducible exact HBL.out) | (with_reducible refine below_drewN ?_ _) | (with_reducible refine Below.alloc ?_ ?_ _) | (with_reducible refine Below.setCell ?_ ?_ _) | go_size)⟩
            case measure => simp [intOf]
    · have ix := mask_ix1
      clear p0 p2 p3 p4 p5
      cases b1
      · have hF : bits .and .u64 F 2 = 0 := HF1.out
        by_cases hx : ep = 0
        · have HY := Lib.hid (HYES.out 1 hall.out (HE1.out.trans (by rw [hx]; rfl)))
          have t : (ep == 0) = true := by simp [hx]
          have t' : decide (ep = 0) = true := by simp [hx]
          subst hx
          go_wp2_with fail
          go_quiet (fail)
          go_wp2_with fail
          go_roundw
          case rel => exact ⟨2, by omega, rfl, HY, by repeat' (first | (with_reducible exact HBL.out) | (with_reducible refine below_drewN ?_ _) | (with_reducible refine Below.alloc ?_ ?_ _) | (with_reducible refine Below.setCell ?_ ?_ _) | go_size)⟩
          case measure => simp [intOf]
        · have HN := Lib.hid (HNO.out 1 (HE1.out.trans (by unfold fld; simp [hx])))
          have t : (ep == 0) = false := by simp [hx]
          have t' : decide (ep = 0) = false := by simp [hx]
          go_wp2_with fail
          go_ret
          exact ⟨by rw [HN.out]; rfl, by repeat' (first | (with_reducible exact HBE.out) | (with_reducible refine below_drewN ?_ _) | (with_reducible refine Below.alloc ?_ ?_ _) | (with_reducible refine Below.setCell ?_ ?_ _) | go_size)⟩
      · have hF : bits .and .u64 F 2 = 2 := HF1.out
        by_cases h1 : ep < 1
        · have HN := Lib.hid (HNO.out 1 (HE1.out.trans (by unfold fld inb; simp; omega)))
          have t : decide (ep < 1) = true := decide_eq_true h1
          go_wp2_with fail
          go_quiet (fail)
          go_wp2_with fail
          go_ret
          exact ⟨by rw [HN.out]; rfl, by repeat' (first | (with_reducible exact HBE.out) | (with_reducible refine below_drewN ?_ _) | (with_reducible refine Below.alloc ?_ ?_ _) | (with_reducible refine Below.setCell ?_ ?_ _) | go_size)⟩
        · have t : decide (ep < 1) = false := decide_eq_false h1
          by_cases h2 : 1048576 < ep
          · have HN := Lib.hid (HNO.out 1 (HE1.out.trans (by unfold fld inb; simp; omega)))
            have t2 : decide (1048576 < ep) = true := decide_eq_true h2
            go_wp2_with fail
            go_quiet (fail)
            go_wp2_with fail
            go_ret
            exact ⟨by rw [HN.out]; rfl, by repeat' (first | (with_reducible exact HBE.out) | (with_reducible refine below_drewN ?_ _) | (with_reducible refine Below.alloc ?_ ?_ _) | (with_reducible refine Below.setCell ?_ ?_ _) | go_size)⟩
          · have HY := Lib.hid (HYES.out 1 hall.out (HE1.out.trans (by unfold fld inb; simp; omega)))
            have t2 : decide (1048576 < ep) = false := decide_eq_false h2
            go_wp2_with fail
            go_quiet (fail)
            go_wp2_with fail
            go_roundw
            case rel => exact ⟨2, by omega, rfl, HY, by repeat' (first | (with_reducible exact HBL.out) | (with_reducible refine below_drewN ?_ _) | (with_reducible refine Below.alloc ?_ ?_ _) | (with_reducible refine Below.setCell ?_ ?_ _) | go_size)⟩
            case measure => simp [intOf]
    · have ix := mask_ix2
      clear p0 p1 p3 p4 p5
      cases b2
      · have hF : bits .and .u64 F 4 = 0 := HF2.out
        by_cases hx : vi = 0
        · have HY := Lib.hid (HYES.out 2 hall.out (HE2.out.trans (by rw [hx]; rfl)))
          have t : (vi == 0) = true := by simp [hx]
          have t' : decide (vi = 0) = true := by simp [hx]
          subst hx
          go_wp2_with fail
          go_quiet (fail)
          go_wp2_with fail
          go_roundw
          case rel => exact ⟨3, by omega, rfl, HY, by repeat' (first | (with_reducible exact HBL.out) | (with_reducible refine below_drewN ?_ _) | (with_reducible refine Below.alloc ?_ ?_ _) | (with_reducible refine Below.setCell ?_ ?_ _) | go_size)⟩
          case measure => simp [intOf]
        · have HN := Lib.hid (HNO.out 2 (HE2.out.trans (by unfold fld; simp [hx])))
          have t : (vi == 0) = false := by simp [hx]
          have t' : decide (vi = 0) = false := by simp [hx]
          go_wp2_with fail
          go_ret
          exact ⟨by rw [HN.out]; rfl, by repeat' (first | (with_reducible exact HBE.out) | (with_reducible refine below_drewN ?_ _) | (with_reducible refine Below.alloc ?_ ?_ _) | (with_reducible refine Below.setCell ?_ ?_ _) | go_size)⟩
      · have hF : bits .and .u64 F 4 = 4 := HF2.out
        by_cases h1 : vi < 0
        · have HN := Lib.hid (HNO.out 2 (HE2.out.trans (by unfold fld inb; simp; omega)))
          have t : decide (vi < 0) = true := decide_eq_true h1
          go_wp2_with fail
          go_quiet (fail)
          go_wp2_with fail
          go_ret
          exact ⟨by rw [HN.out]; rfl, by repeat' (first | (with_reducible exact HBE.out) | (with_reducible refine below_drewN ?_ _) | (with_reducible refine Below.alloc ?_ ?_ _) | (with_reducible refine Below.setCell ?_ ?_ _) | go_size)⟩
        · have t : decide (vi < 0) = false := decide_eq_false h1
          by_cases h2 : 1048576 < vi
          · have HN := Lib.hid (HNO.out 2 (HE2.out.trans (by unfold fld inb; simp; omega)))
            have t2 : decide (1048576 < vi) = true := decide_eq_true h2
            go_wp2_with fail
            go_quiet (fail)
            go_wp2_with fail
            go_ret
            exact ⟨by rw [HN.out]; rfl, by repeat' (first | (with_reducible exact HBE.out) | (with_reducible refine below_drewN ?_ _) | (with_reducible refine Below.alloc ?_ ?_ _) | (with_reducible refine Below.setCell ?_ ?_ _) | go_size)⟩
          · have HY := Lib.hid (HYES.out 2 hall.out (HE2.out.trans (by unfold fld inb; simp; omega)))
            have t2 : decide (1048576 < vi) = false := decide_eq_false h2
            go_wp2_with fail
            go_quiet (fail)
            go_wp2_with fail
            go_roundw
            case rel => exact ⟨3, by omega, rfl, HY, by repeat' (first | (with_reducible exact HBL.out) | (with_reducible refine below_drewN ?_ _) | (with_reducible refine Below.alloc ?_ ?_ _) | (with_reducible refine Below.setCell ?_ ?_ _) | go_size)⟩
            case measure => simp [intOf]
    · have ix := mask_ix3
      clear p0 p1 p2 p4 p5
      cases b3
      · have hF : bits .and .u64 F 8 = 0 := HF3.out
        by_cases hx : ba = 0
        · have HY := Lib.hid (HYES.out 3 hall.out (HE3.out.trans (by rw [hx]; rfl)))
          have t : (ba == 0) = true := by simp [hx]
          have t' : decide (ba = 0) = true := by simp [hx]
          subst hx
          go_wp2_with fail
          go_quiet (fail)
          go_wp2_with fail
          go_roundw
          case rel => exact ⟨4, by omega, rfl, HY, by repeat' (first | (with_reducible exact HBL.out) | (with_reducible refine below_drewN ?_ _) | (with_reducible refine Below.alloc ?_ ?_ _) | (with_reducible refine Below.setCell ?_ ?_ _) | go_size)⟩
          case measure => simp [intOf]
        · have HN := Lib.hid (HNO.out 3 (HE3.out.trans (by unfold fld; simp [hx])))
          have t : (ba == 0) = false := by simp [hx]
          have t' : decide (ba = 0) = false := by simp [hx]
          go_wp2_with fail
          go_ret
          exact ⟨by rw [HN.out]; rfl, by repeat' (first | (with_reducible exact HBE.out) | (with_reducible refine below_drewN ?_ _) | (with_reducible refine Below.alloc ?_ ?_ _) | (with_reducible refine Below.setCell ?_ ?_ _) | go_size)⟩
      · have hF : bits .and .u64 F 8 = 8 := HF3.out
        by_cases h1 : ba < 0
        · have HN := Lib.hid (HNO.out 3 (HE3.out.trans (by unfold fld inb; simp; omega)))
          have t : decide (ba < 0) = true := decide_eq_true h1
          go_wp2_with fail
          go_quiet (fail)
          go_wp2_with fail
          go_ret
          exact ⟨by rw [HN.out]; rfl, by repeat' (first | (with_reducible exact HBE.out) | (with_reducible refine below_drewN ?_ _) | (with_reducible refine Below.alloc ?_ ?_ _) | (with_reducible refine Below.setCell ?_ ?_ _) | go_size)⟩
        · have t : decide (ba < 0) = false := decide_eq_false h1
          by_cases h2 : 64 < ba
          · have HN := Lib.hid (HNO.out 3 (HE3.out.trans (by unfold fld inb; simp; omega)))
            have t2 : decide (64 < ba) = true := decide_eq_true h2
            go_wp2_with fail
            go_quiet (fail)
            go_wp2_with fail
            go_ret
            exact ⟨by rw [HN.out]; rfl, by repeat' (first | (with_reducible exact HBE.out) | (with_reducible refine below_drewN ?_ _) | (with_reducible refine Below.alloc ?_ ?_ _) | (with_reducible refine Below.setCell ?_ ?_ _) | go_size)⟩
          · have HY := Lib.hid (HYES.out 3 hall.out (HE3.out.trans (by unfold fld inb; simp; omega)))
            have t2 : decide (64 < ba) = false := decide_eq_false h2
            go_wp2_with fail
            go_quiet (fail)
            go_wp2_with fail
            go_roundw
            case rel => exact ⟨4, by omega, rfl, HY, by repeat' (first | (with_reducible exact HBL.out) | (with_reducible refine below_drewN ?_ _) | (with_reducible refine Below.alloc ?_ ?_ _) | (with_reducible refine Below.setCell ?_ ?_ _) | go_size)⟩
            case measure => simp [intOf]
    · have ix := mask_ix4
      clear p0 p1 p2 p3 p5
      cases b4
      · have hF : bits .and .u64 F 16 = 0 := HF4.out
        by_cases hx : le = 0
        · have HY := Lib.hid (HYES.out 4 hall.out (HE4.out.trans (by rw [hx]; rfl)))
          have t : (le == 0) = true := by simp [hx]
          have t' : decide (le = 0) = true := by simp [hx]
          subst hx
          go_wp2_with fail
          go_quiet (fail)
          go_wp2_with fail
          go_roundw
          case rel => exact ⟨5, by omega, rfl, HY, by repeat' (first | (with_reducible exact HBL.out) | (with_reducible refine below_drewN ?_ _) | (with_reducible refine Below.alloc ?_ ?_ _) | (with_reducible refine Below.setCell ?_ ?_ _) | go_size)⟩
          case measure => simp [intOf]
        · have HN := Lib.hid (HNO.out 4 (HE4.out.trans (by unfold fld; simp [hx])))
          have t : (le == 0) = false := by simp [hx]
          have t' : decide (le = 0) = false := by simp [hx]
          go_wp2_with fail
          go_ret
          exact ⟨by rw [HN.out]; rfl, by repeat' (first | (with_reducible exact HBE.out) | (with_reducible refine below_drewN ?_ _) | (with_reducible refine Below.alloc ?_ ?_ _) | (with_reducible refine Below.setCell ?_ ?_ _) | go_size)⟩
      · have hF : bits .and .u64 F 16 = 16 := HF4.out
        by_cases h1 : le < 0
        · have HN := Lib.hid (HNO.out 4 (HE4.out.trans (by unfold fld inb; simp; omega)))
          have t : decide (le < 0) = true := decide_eq_true h1
          go_wp2_with fail
          go_quiet (fail)
          go_wp2_with fail
          go_ret
          exact ⟨by rw [HN.out]; rfl, by repeat' (first | (with_reducible exact HBE.out) | (with_reducible refine below_drewN ?_ _) | (with_reducible refine Below.alloc ?_ ?_ _) | (with_reducible refine Below.setCell ?_ ?_ _) | go_size)⟩
        · have t : decide (le < 0) = false := decide_eq_false h1
          by_cases h2 : 64 < le
          · have HN := Lib.hid (HNO.out 4 (HE4.out.trans (by unfold fld inb; simp; omega)))
            have t2 : decide (64 < le) = true := decide_eq_true h2
            go_wp2_with fail
            go_quiet (fail)
            go_wp2_with fail
            go_ret
            exact ⟨by rw [HN.out]; rfl, by repeat' (first | (with_reducible exact HBE.out) | (with_reducible refine below_drewN ?_ _) | (with_reducible refine Below.alloc ?_ ?_ _) | (with_reducible refine Below.setCell ?_ ?_ _) | go_size)⟩
          · have HY := Lib.hid (HYES.out 4 hall.out (HE4.out.trans (by unfold fld inb; simp; omega)))
            have t2 : decide (64 < le) = false := decide_eq_false h2
            go_wp2_with fail
            go_quiet (fail)
            go_wp2_with fail
            go_roundw
            case rel => exact ⟨5, by omega, rfl, HY, by repeat' (first | (with_reducible exact HBL.out) | (with_reducible refine below_drewN ?_ _) | (with_reducible refine Below.alloc ?_ ?_ _) | (with_reducible refine Below.setCell ?_ ?_ _) | go_size)⟩
            case measure => simp [intOf]
    · have ix := mask_ix5
      clear p0 p1 p2 p3 p4
      cases b5
      · have hF : bits .and .u64 F 32 = 0 := HF5.out
        by_cases hx : sp = 0
        · have HY := Lib.hid (HYES.out 5 hall.out (HE5.out.trans (by rw [hx]; rfl)))
          have t : (sp == 0) = true := by simp [hx]
          have t' : decide (sp = 0) = true := by simp [hx]
          subst hx
          go_wp2_with fail
          go_quiet (fail)
          go_wp2_with fail
          go_roundw
          case rel => exact ⟨6, by omega, rfl, HY, by repeat' (first | (with_reducible exact HBL.out) | (with_reducible refine below_drewN ?_ _) | (with_reducible refine Below.alloc ?_ ?_ _) | (with_reducible refine Below.setCell ?_ ?_ _) | go_size)⟩
          case measure => simp [intOf]
        · have HN := Lib.hid (HNO.out 5 (HE5.out.trans (by unfold fld; simp [hx])))
          have t : (sp == 0) = false := by simp [hx]
          have t' : decide (sp = 0) = false := by simp [hx]
          go_wp2_with fail
          go_ret
          exact ⟨by rw [HN.out]; rfl, by repeat' (first | (with_reducible exact HBE.out) | (with_reducible refine below_drewN ?_ _) | (with_reducible refine Below.alloc ?_ ?_ _) | (with_reducible refine Below.setCell ?_ ?_ _) | go_size)⟩
      · have hF : bits .and .u64 F 32 = 32 := HF5.out
        by_cases h1 : sp < 0
        · have HN := Lib.hid (HNO.out 5 (HE5.out.trans (by unfold fld inb; simp; omega)))
          have t : decide (sp < 0) = true := decide_eq_true h1
          go_wp2_with fail
          go_quiet (fail)
          go_wp2_with fail
          go_ret
          exact ⟨by rw [HN.out]; rfl, by repeat' (first | (with_reducible exact HBE.out) | (with_reducible refine below_drewN ?_ _) | (with_reducible refine Below.alloc ?_ ?_ _) | (with_reducible refine Below.setCell ?_ ?_ _) | go_size)⟩
        · have t : decide (sp < 0) = false := decide_eq_false h1
          by_cases h2 : 1073741824 < sp
          · have HN := Lib.hid (HNO.out 5 (HE5.out.trans (by unfold fld inb; simp; omega)))
            have t2 : decide (1073741824 < sp) = true := decide_eq_true h2
            go_wp2_with fail
            go_quiet (fail)
            go_wp2_with fail
            go_ret
            exact ⟨by rw [HN.out]; rfl, by repeat' (first | (with_reducible exact HBE.out) | (with_reducible refine below_drewN ?_ _) | (with_reducible refine Below.alloc ?_ ?_ _) | (with_reducible refine Below.setCell ?_ ?_ _) | go_size)⟩
          · have HY := Lib.hid (HYES.out 5 hall.out (HE5.out.trans (by unfold fld inb; simp; omega)))
            have t2 : decide (1073741824 < sp) = false := decide_eq_false h2
            go_wp2_with fail
            go_quiet (fail)
            go_wp2_with fail
            go_roundw
            case rel => exact ⟨6, by omega, rfl, HY, by repeat' (first | (with_reducible exact HBL.out) | (with_reducible refine below_drewN ?_ _) | (with_reducible refine Below.alloc ?_ ?_ _) | (with_reducible refine Below.setCell ?_ ?_ _) | go_size)⟩
            case measure => simp [intOf]
    · have HX : Hid (R = true) := by show _ = _; rw [HALL.out]; have h := hall.out; rwa [List.take_of_length_le (by rw [HLEN.out]; omega)] at h
      go_wp2_with fail
      go_ret
      exact ⟨by rw [HX.out]; rfl, HBE.out⟩
end Go.Proofs.YtkdnhfeamibmdaaDoor
