/-
  askedOf and allow of package records.
-/
import Derived.Test.YtkdnhfeamibmdaaDoorRcAsk
import Derived.Deep.WholeRow
import Derived.Laws.ResultCell
namespace Go.Proofs.YtkdnhfeamibmdaaDoor
open Go.RowKit
def allowB (s0 s1 e0 e1 v0 v1 f0 f1 l0 l1 n0 n1 m0 m1 st ep vi fr le : Int) (n m : Nat) : Bool := inb s0 s1 st && (inb e0 e1 ep && (inb v0 v1 vi && (inb f0 f1 fr && (inb l0 l1 le && (inb n0 n1 (n : Int) && inb m0 m1 (m : Int))))))
/-- What askedOf answers: what is asked says just which numbers a record of that kind, with so many entries, may have. -/
def AskPost (ki : Int) (n : Nat) (w : World) (e : Ending) (w' : World) : Prop := ∃ (s0 s1 e0 e1 v0 v1 f0 f1 l0 l1 n0 n1 m0 m1 : Int) (ok : Bool), e = .returned (.tuple #[.agg #[.int .i64 s0, .int .i64 s1, .int .i64 e0, .int .i64 e1, .int .i64 v0, .int .i64 v1, .int .i64 f0, .int .i64 f1, .int .i64 l0, .int .i64 l1, .int .i64 n0, .int .i64 n1, .int .i64 m0, .int .i64 m1], .bool ok]) ∧ Hid (∀ st ep vi fr le m, (ok && allowB s0 s1 e0 e1 v0 v1 f0 f1 l0 l1 n0 n1 m0 m1 st ep vi fr le n m) = decide (numsM ki st ep vi fr le n m)) ∧ Below w.heap.size w w'
set_option maxRecDepth 100000 in
set_option maxHeartbeats 4000000 in
theorem askedOf_any (ki : Int) (n : Nat) (w : World) (hA : AskR w) (hn : (n : Int) ≤ 1000000) : Calls Tryd.prog 35 #[.int .i64 ki, .int .i64 n] w (AskPost ki n w) := by
  have hb0 : Below w.heap.size w (w.alloc (.cells #[.int .i64 0, .int .i64 0, .int .i64 0, .int .i64 0, .int .i64 0, .int .i64 0, .int .i64 0, .int .i64 0, .int .i64 0, .int .i64 0, .int .i64 0, .int .i64 0, .int .i64 0, .int .i64 0] 74)) := (Below.refl _ _).alloc (Nat.le_refl _) _
  obtain ⟨_, ⟨a1, a2⟩, ⟨b1, b2⟩, ⟨c1, c2⟩, ⟨d1, d2⟩, _, ⟨f1, f2⟩, hz⟩ := hA.keep hb0
  have HA := Lib.hid hA
  by_cases h1 : ki = 1
  · subst h1
    go_enter Tryd.func35, Tryd.ntmps35
    go_wp2_with fail
    (try simp only [Exit.inBlock, Exit.then]); refine bodyPost_ret (v := .tuple #[.agg #[.int .i64 0, .int .i64 3, .int .i64 1, .int .i64 1048576, .int .i64 0, .int .i64 0, .int .i64 0, .int .i64 0, .int .i64 0, .int .i64 0, .int .i64 0, .int .i64 0, .int .i64 0, .int .i64 0], .bool true]) (by rw [results_cell_tmp rfl]; go_simp) rfl ?_
    refine ⟨0, 3, 1, 1048576, 0, 0, 0, 0, 0, 0, 0, 0, 0, 0, true, rfl, Lib.hid (fun st ep vi fr le m => ?_), ?_⟩
    · rw [Bool.eq_iff_iff]; simp only [allowB, inb, numsM, Bool.and_eq_true, decide_eq_true_eq]; simp; omega
    · repeat' (first | (with_reducible exact Below.refl _ _) | (with_reducible refine below_drewN ?_ _) | (with_reducible refine Below.alloc ?_ ?_ _) | (with_reducible refine Below.setCell ?_ ?_ _) | go_size)
  have t1 : decide (ki = 1) = false := decide_eq_false h1
  by_cases h2 : ki = 2
  · subst h2
    go_enter Tryd.func35, Tryd.ntmps35
    go_wp2_with fail
    (try simp only [Exit.inBlock, Exit.then]); refine bodyPost_ret (v := .tuple #[.agg #[.int .i64 0, .int .i64 3, .int .i64 1, .int .i64 1048576, .int .i64 0, .int .i64 0, .int .i64 0, .int .i64 (64 - (n : Int)), .int .i64 0, .int .i64 0, .int .i64 0, .int .i64 64, .int .i64 0, .int .i64 0], .bool true]) (by rw [results_cell_tmp rfl]; go_simp) rfl ?_
    refine ⟨0, 3, 1, 1048576, 0, 0, 0, (64 - (n : Int)), 0, 0, 0, 64, 0, 0, true, rfl, Lib.hid (fun st ep vi fr le m => ?_), ?_⟩
    · rw [Bool.eq_iff_iff]; simp only [allowB, inb, numsM, Bool.and_eq_true, decide_eq_true_eq]; simp; omega
    · repeat' (first | (with_reducible exact Below.refl _ _) | (with_reducible refine below_drewN ?_ _) | (with_reducible refine Below.alloc ?_ ?_ _) | (with_reducible refine Below.setCell ?_ ?_ _) | go_size)
  have t2 : decide (ki = 2) = false := decide_eq_false h2
  by_cases h3 : ki = 3
  · subst h3
    go_enter Tryd.func35, Tryd.ntmps35
    go_wp2_with fail
    (try simp only [Exit.inBlock, Exit.then]); refine bodyPost_ret (v := .tuple #[.agg #[.int .i64 0, .int .i64 3, .int .i64 0, .int .i64 0, .int .i64 0, .int .i64 0, .int .i64 0, .int .i64 0, .int .i64 0, .int .i64 64, .int .i64 0, .int .i64 0, .int .i64 0, .int .i64 0], .bool true]) (by rw [results_cell_tmp rfl]; go_simp) rfl ?_
    refine ⟨0, 3, 0, 0, 0, 0, 0, 0, 0, 64, 0, 0, 0, 0, true, rfl, Lib.hid (fun st ep vi fr le m => ?_), ?_⟩
    · rw [Bool.eq_iff_iff]; simp only [allowB, inb, numsM, Bool.and_eq_true, decide_eq_true_eq]; simp; omega
    · repeat' (first | (with_reducible exact Below.refl _ _) | (with_reducible refine below_drewN ?_ _) | (with_reducible refine Below.alloc ?_ ?_ _) | (with_reducible refine Below.setCell ?_ ?_ _) | go_size)
  have t3 : decide (ki = 3) = false := decide_eq_false h3
  by_cases h4 : ki = 4
  · subst h4
    go_enter Tryd.func35, Tryd.ntmps35
    go_wp2_with fail
    (try simp only [Exit.inBlock, Exit.then]); refine bodyPost_ret (v := .tuple #[.agg #[.int .i64 0, .int .i64 3, .int .i64 0, .int .i64 1048576, .int .i64 0, .int .i64 1048576, .int .i64 0, .int .i64 0, .int .i64 0, .int .i64 (n : Int), .int .i64 0, .int .i64 64, .int .i64 0, .int .i64 0], .bool true]) (by rw [results_cell_tmp rfl]; go_simp) rfl ?_
    refine ⟨0, 3, 0, 1048576, 0, 1048576, 0, 0, 0, (n : Int), 0, 64, 0, 0, true, rfl, Lib.hid (fun st ep vi fr le m => ?_), ?_⟩
    · rw [Bool.eq_iff_iff]; simp only [allowB, inb, numsM, Bool.and_eq_true, decide_eq_true_eq]; simp; omega
    · repeat' (first | (with_reducible exact Below.refl _ _) | (with_reducible refine below_drewN ?_ _) | (with_reducible refine Below.alloc ?_ ?_ _) | (with_reducible refine Below.setCell ?_ ?_ _) | go_size)
  have t4 : decide (ki = 4) = false := decide_eq_false h4
  by_cases h5 : ki = 5
  · subst h5
    go_enter Tryd.func35, Tryd.ntmps35
    go_wp2_with fail
    (try simp only [Exit.inBlock, Exit.then]); refine bodyPost_ret (v := .tuple #[.agg #[.int .i64 0, .int .i64 0, .int .i64 0, .int .i64 0, .int .i64 0, .int .i64 0, .int .i64 0, .int .i64 0, .int .i64 0, .int .i64 0, .int .i64 0, .int .i64 0, .int .i64 0, .int .i64 256], .bool true]) (by rw [results_cell_tmp rfl]; go_simp) rfl ?_
    refine ⟨0, 0, 0, 0, 0, 0, 0, 0, 0, 0, 0, 0, 0, 256, true, rfl, Lib.hid (fun st ep vi fr le m => ?_), ?_⟩
    · rw [Bool.eq_iff_iff]; simp only [allowB, inb, numsM, Bool.and_eq_true, decide_eq_true_eq]; simp; omega
    · repeat' (first | (with_reducible exact Below.refl _ _) | (with_reducible refine below_drewN ?_ _) | (with_reducible refine Below.alloc ?_ ?_ _) | (with_reducible refine Below.setCell ?_ ?_ _) | go_size)
  have t5 : decide (ki = 5) = false := decide_eq_false h5
  go_enter Tryd.func35, Tryd.ntmps35
  go_wp2_with fail
  (try simp only [Exit.inBlock, Exit.then]); refine bodyPost_ret (v := .tuple #[.agg #[.int .i64 0, .int .i64 0, .int .i64 0, .int .i64 0, .int .i64 0, .int .i64 0, .int .i64 0, .int .i64 0, .int .i64 0, .int .i64 0, .int .i64 0, .int .i64 0, .int .i64 0, .int .i64 0], .bool false]) (by rw [results_cell_tmp rfl]; go_simp) rfl ?_
  refine ⟨0, 0, 0, 0, 0, 0, 0, 0, 0, 0, 0, 0, 0, 0, false, rfl, Lib.hid (fun st ep vi fr le m => ?_), ?_⟩
  · rw [Bool.false_and]; refine (decide_eq_false ?_).symm; unfold numsM; omega
  · repeat' (first | (with_reducible exact Below.refl _ _) | (with_reducible refine below_drewN ?_ _) | (with_reducible refine Below.alloc ?_ ?_ _) | (with_reducible refine Below.setCell ?_ ?_ _) | go_size)
set_option maxRecDepth 100000 in
set_option maxHeartbeats 4000000 in
theorem allow_any (s0 s1 e0 e1 v0 v1 f0 f1 l0 l1 n0 n1 m0 m1 ki st ep vi fr le : Int) (n m c c' : Nat) (A A' : Option Addr) (w : World) : Calls Tryd.prog 36 #[.agg #[.int .i64 s0, .int .i64 s1, .int .i64 e0, .int .i64 e1, .int .i64 v0, .int .i64 v1, .int .i64 f0, .int .i64 f1, .int .i64 l0, .int .i64 l1, .int .i64 n0, .int .i64 n1, .int .i64 m0, .int .i64 m1], .agg #[.int .i64 ki, .int .i64 st, .int .i64 ep, .int .i64 vi, .int .i64 fr, .int .i64 le, .slice A n c, .slice A' m c']] w (NumPost (.bool (allowB s0 s1 e0 e1 v0 v1 f0 f1 l0 l1 n0 n1 m0 m1 st ep vi fr le n m)) w) := by
  have HM : Hid (allowB s0 s1 e0 e1 v0 v1 f0 f1 l0 l1 n0 n1 m0 m1 st ep vi fr le n m = (inb s0 s1 st && (inb e0 e1 ep && (inb v0 v1 vi && (inb f0 f1 fr && (inb l0 l1 le && (inb n0 n1 (n : Int) && inb m0 m1 (m : Int)))))))) := rfl
  have H0 := Lib.hid (fun X => has_any s0 s1 st X)
  have H1 := Lib.hid (fun X => has_any e0 e1 ep X)
  have H2 := Lib.hid (fun X => has_any v0 v1 vi X)
  have H3 := Lib.hid (fun X => has_any f0 f1 fr X)
  have H4 := Lib.hid (fun X => has_any l0 l1 le X)
  have H5 := Lib.hid (fun X => has_any n0 n1 (n : Int) X)
  have H6 := Lib.hid (fun X => has_any m0 m1 (m : Int) X)
  generalize allowB s0 s1 e0 e1 v0 v1 f0 f1 l0 l1 n0 n1 m0 m1 st ep vi fr le n m = my at *
  generalize inb s0 s1 st = b0 at *
  generalize inb e0 e1 ep = b1 at *
  generalize inb v0 v1 vi = b2 at *
  generalize inb f0 f1 fr = b3 at *
  generalize inb l0 l1 le = b4 at *
  generalize inb n0 n1 (n : Int) = b5 at *
  generalize inb m0 m1 (m : Int) = b6 at *
  have hb0 : Below w.heap.size w ((w.alloc (.cells #[.int .i64 s0, .int .i64 s1, .int .i64 e0, .int .i64 e1, .int .i64 v0, .int .i64 v1, .int .i64 f0, .int .i64 f1, .int .i64 l0, .int .i64 l1, .int .i64 n0, .int .i64 n1, .int .i64 m0, .int .i64 m1] 74)).alloc (.cells #[.int .i64 ki, .int .i64 st, .int .i64 ep, .int .i64 vi, .int .i64 fr, .int .i64 le, .slice A n c, .slice A' m c'] 25)) := ((Below.refl _ _).alloc (Nat.le_refl _) _).alloc (by simp) _
  have B0 : ((w.alloc (.cells #[.int .i64 s0, .int .i64 s1, .int .i64 e0, .int .i64 e1, .int .i64 v0, .int .i64 v1, .int .i64 f0, .int .i64 f1, .int .i64 l0, .int .i64 l1, .int .i64 n0, .int .i64 n1, .int .i64 m0, .int .i64 m1] 74)).alloc (.cells #[.int .i64 ki, .int .i64 st, .int .i64 ep, .int .i64 vi, .int .i64 fr, .int .i64 le, .slice A n c, .slice A' m c'] 25)).heap[w.heap.size]? = some (.cells #[.int .i64 s0, .int .i64 s1, .int .i64 e0, .int .i64 e1, .int .i64 v0, .int .i64 v1, .int .i64 f0, .int .i64 f1, .int .i64 l0, .int .i64 l1, .int .i64 n0, .int .i64 n1, .int .i64 m0, .int .i64 m1] 74 (0, 0)) := heap_alloc2_old _ _ _
  have B1 : ((w.alloc (.cells #[.int .i64 s0, .int .i64 s1, .int .i64 e0, .int .i64 e1, .int .i64 v0, .int .i64 v1, .int .i64 f0, .int .i64 f1, .int .i64 l0, .int .i64 l1, .int .i64 n0, .int .i64 n1, .int .i64 m0, .int .i64 m1] 74)).alloc (.cells #[.int .i64 ki, .int .i64 st, .int .i64 ep, .int .i64 vi, .int .i64 fr, .int .i64 le, .slice A n c, .slice A' m c'] 25)).heap[w.heap.size + 1]? = some (.cells #[.int .i64 ki, .int .i64 st, .int .i64 ep, .int .i64 vi, .int .i64 fr, .int .i64 le, .slice A n c, .slice A' m c'] 25 (0, 0)) := heap_alloc2_new _ _ _
  have hs : ((w.alloc (.cells #[.int .i64 s0, .int .i64 s1, .int .i64 e0, .int .i64 e1, .int .i64 v0, .int .i64 v1, .int .i64 f0, .int .i64 f1, .int .i64 l0, .int .i64 l1, .int .i64 n0, .int .i64 n1, .int .i64 m0, .int .i64 m1] 74)).alloc (.cells #[.int .i64 ki, .int .i64 st, .int .i64 ep, .int .i64 vi, .int .i64 fr, .int .i64 le, .slice A n c, .slice A' m c'] 25)).heap.size = w.heap.size + 2 := by simp
  have HB0 := Lib.hid hb0
  have HX0 := Lib.hid B0
  have HX1 := Lib.hid B1
  have HS := Lib.hid hs
  clear hb0 B0 B1 hs
  go_enter Tryd.func36, Tryd.ntmps36
  go_wp2_with fail
  refine (H0.out _).mono ?_
  rintro e w1 ⟨rfl, hb⟩
  have HX0 := Lib.hid ((hb.block w.heap.size (by have := HS.out; omega)).trans HX0.out)
  have HX1 := Lib.hid ((hb.block (w.heap.size + 1) (by have := HS.out; omega)).trans HX1.out)
  have HS := Lib.hid (show w.heap.size + 2 ≤ w1.heap.size by have := HS.out; have := hb.size; omega)
  have HB1 := Lib.hid (HB0.out.trans (hb.mono HB0.out.size))
  clear hb
  have x0 : w1.cell? ⟨w.heap.size, 2, none⟩ = some (.int .i64 e0) := by rw [Lib.cell_of_heap HX0.out]; rfl
  have x1 : w1.cell? ⟨w.heap.size, 3, none⟩ = some (.int .i64 e1) := by rw [Lib.cell_of_heap HX0.out]; rfl
  have x2 : w1.cell? ⟨w.heap.size + 1, 2, none⟩ = some (.int .i64 ep) := by rw [Lib.cell_of_heap HX1.out]; rfl
  cases b0
  · go_wp2_with fail
    go_ret
    exact ⟨by rw [HM.out]; rfl, HB1.out⟩
  go_wp2_with fail
  refine (H1.out _).mono ?_
  rintro e w2 ⟨rfl, hb⟩
  have HX0 := Lib.hid ((hb.block w.heap.size (by have := HS.out; omega)).trans HX0.out)
  have HX1 := Lib.hid ((hb.block (w.heap.size + 1) (by have := HS.out; omega)).trans HX1.out)
  have HS := Lib.hid (show w.heap.size + 2 ≤ w2.heap.size by have := HS.out; have := hb.size; omega)
  have HB2 := Lib.hid (HB1.out.trans (hb.mono HB1.out.size))
  clear hb x0 x1 x2
  have x0 : w2.cell? ⟨w.heap.size, 4, none⟩ = some (.int .i64 v0) := by rw [Lib.cell_of_heap HX0.out]; rfl
  have x1 : w2.cell? ⟨w.heap.size, 5, none⟩ = some (.int .i64 v1) := by rw [Lib.cell_of_heap HX0.out]; rfl
  have x2 : w2.cell? ⟨w.heap.size + 1, 3, none⟩ = some (.int .i64 vi) := by rw [Lib.cell_of_heap HX1.out]; rfl
  cases b1
  · go_wp2_with fail
    go_ret
    exact ⟨by rw [HM.out]; rfl, HB2.out⟩
  go_wp2_with fail
  refine (H2.out _).mono ?_
  rintro e w3 ⟨rfl, hb⟩
  have HX0 := Lib.hid ((hb.block w.heap.size (by have := HS.out; omega)).trans HX0.out)
  have HX1 := Lib.hid ((hb.block (w.heap.size + 1) (by have := HS.out; omega)).trans HX1.out)
  have HS := Lib.hid (show w.heap.size + 2 ≤ w3.heap.size by have := HS.out; have := hb.size; omega)
  have HB3 := Lib.hid (HB2.out.trans (hb.mono HB2.out.size))
  clear hb x0 x1 x2
  have x0 : w3.cell? ⟨w.heap.size, 6, none⟩ = some (.int .i64 f0) := by rw [Lib.cell_of_heap HX0.out]; rfl
  have x1 : w3.cell? ⟨w.heap.size, 7, none⟩ = some (.int .i64 f1) := by rw [Lib.cell_of_heap HX0.out]; rfl
  have x2 : w3.cell? ⟨w.heap.size + 1, 4, none⟩ = some (.int .i64 fr) := by rw [Lib.cell_of_heap HX1.out]; rfl
  cases b2
  · go_wp2_with fail
    go_ret
    exact ⟨by rw [HM.out]; rfl, HB3.out⟩
  go_wp2_with fail
  refine (H3.out _).mono ?_
  rintro e w4 ⟨rfl, hb⟩
  have HX0 := Lib.hid ((hb.block w.heap.size (by have := HS.out; omega)).trans HX0.out)
  have HX1 := Lib.hid ((hb.block (w.heap.size + 1) (by have := HS.out; omega)).trans HX1.out)
  have HS := Lib.hid (show w.heap.size + 2 ≤ w4.heap.size by have := HS.out; have := hb.size; omega)
  have HB4 := Lib.hid (HB3.out.trans (hb.mono HB3.out.size))
  clear hb x0 x1 x2
  have x0 : w4.cell? ⟨w.heap.size, 8, none⟩ = some (.int .i64 l0) := by rw [Lib.cell_of_heap HX0.out]; rfl
  have x1 : w4.cell? ⟨w.heap.size, 9, none⟩ = some (.int .i64 l1) := by rw [Lib.cell_of_heap HX0.out]; rfl
  have x2 : w4.cell? ⟨w.heap.size + 1, 5, none⟩ = some (.int .i64 le) := by rw [Lib.cell_of_heap HX1.out]; rfl
  cases b3
  · go_wp2_with fail
    go_ret
    exact ⟨by rw [HM.out]; rfl, HB4.out⟩
  go_wp2_with fail
  refine (H4.out _).mono ?_
  rintro e w5 ⟨rfl, hb⟩
  have HX0 := Lib.hid ((hb.block w.heap.size (by have := HS.out; omega)).trans HX0.out)
  have HX1 := Lib.hid ((hb.block (w.heap.size + 1) (by have := HS.out; omega)).trans HX1.out)
  have HS := Lib.hid (show w.heap.size + 2 ≤ w5.heap.size by have := HS.out; have := hb.size; omega)
  have HB5 := Lib.hid (HB4.out.trans (hb.mono HB4.out.size))
  clear hb x0 x1 x2
  have x0 : w5.cell? ⟨w.heap.size, 10, none⟩ = some (.int .i64 n0) := by rw [Lib.cell_of_heap HX0.out]; rfl
  have x1 : w5.cell? ⟨w.heap.size, 11, none⟩ = some (.int .i64 n1) := by rw [Lib.cell_of_heap HX0.out]; rfl
  have x2 : w5.cell? ⟨w.heap.size + 1, 6, none⟩ = some (.slice A n c) := by rw [Lib.cell_of_heap HX1.out]; rfl
  cases b4
  · go_wp2_with fail
    go_ret
    exact ⟨by rw [HM.out]; rfl, HB5.out⟩
  go_wp2_with fail
  refine (H5.out _).mono ?_
  rintro e w6 ⟨rfl, hb⟩
  have HX0 := Lib.hid ((hb.block w.heap.size (by have := HS.out; omega)).trans HX0.out)
  have HX1 := Lib.hid ((hb.block (w.heap.size + 1) (by have := HS.out; omega)).trans HX1.out)
  have HS := Lib.hid (show w.heap.size + 2 ≤ w6.heap.size by have := HS.out; have := hb.size; omega)
  have HB6 := Lib.hid (HB5.out.trans (hb.mono HB5.out.size))
  clear hb x0 x1 x2
  have x0 : w6.cell? ⟨w.heap.size, 12, none⟩ = some (.int .i64 m0) := by rw [Lib.cell_of_heap HX0.out]; rfl
  have x1 : w6.cell? ⟨w.heap.size, 13, none⟩ = some (.int .i64 m1) := by rw [Lib.cell_of_heap HX0.out]; rfl
  have x2 : w6.cell? ⟨w.heap.size + 1, 7, none⟩ = some (.slice A' m c') := by rw [Lib.cell_of_heap HX1.out]; rfl
  cases b5
  · go_wp2_with fail
    go_ret
    exact ⟨by rw [HM.out]; rfl, HB6.out⟩
  go_wp2_with fail
  refine (H6.out _).mono ?_
  rintro e w7 ⟨rfl, hb⟩
  have HX0 := Lib.hid ((hb.block w.heap.size (by have := HS.out; omega)).trans HX0.out)
  have HX1 := Lib.hid ((hb.block (w.heap.size + 1) (by have := HS.out; omega)).trans HX1.out)
  have HS := Lib.hid (show w.heap.size + 2 ≤ w7.heap.size by have := HS.out; have := hb.size; omega)
  have HB7 := Lib.hid (HB6.out.trans (hb.mono HB6.out.size))
  clear hb x0 x1 x2
  go_wp2_with fail
  go_ret
  exact ⟨by rw [HM.out]; rfl, HB7.out⟩
end Go.Proofs.YtkdnhfeamibmdaaDoor
