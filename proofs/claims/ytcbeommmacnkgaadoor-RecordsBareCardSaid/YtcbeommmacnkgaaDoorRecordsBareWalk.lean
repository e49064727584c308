/-
  The walk of the law RecordsBare: it returns true and writes nothing that was there.
-/
import Derived.Test.YtcbeommmacnkgaaDoorRcBare
namespace Go.Proofs.YtcbeommmacnkgaaDoor.recordsBareW
open Go.RowKit
theorem row_rd {X : World} {g : Nat} {t : TypeId} {xs : List Int} (hg : X.heap[g]? = some (.cells (xs.map (Value.int .i64)).toArray t (0, 0))) : RdB X.heap.size X (.slice (some ⟨g, 0, none⟩) 1 1) 1 xs :=
  ⟨_, 1, rfl, Nat.le_refl _, by decide, (fun e => by cases e), fun _ => ⟨g, 0, rfl, (Array.getElem?_eq_some_iff.1 hg).1, fun j x hx => by
    rw [Nat.zero_add, Lib.cell_of_heap hg]
    simp [hx]⟩⟩
theorem row_spot {X : World} {g : Nat} (hg : X.heap[g]? = some (.cells #[.int .i64 0, .int .i64 0] 32 (0, 0))) : FdB X.heap.size X (.slice (some ⟨g, 0, none⟩) 1 1) [⟨0, 0⟩] := row_rd (xs := [0, 0]) hg
theorem row_entry {X : World} {g : Nat} {st : Int} (hg : X.heap[g]? = some (.cells #[.int .i64 1, .int .i64 1, .int .i64 st, .int .i64 0, .int .i64 1, .int .i64 0] 30 (0, 0))) : EsB X.heap.size X (.slice (some ⟨g, 0, none⟩) 1 1) [⟨1, ⟨1, st, 0, 1, 0⟩⟩] := row_rd (xs := [1, 1, st, 0, 1, 0]) hg
set_option maxRecDepth 100000 in
set_option maxHeartbeats 4000000 in
theorem way_4 (r : Rec) (A A' : Option Addr) (c c' q : Nat) (n : Int) (w : World) (h : In r A A' c c' w) (hgr : (decide (500 < r.es.length) || decide (1000 < r.fd.length)) = false) (hmay : r.may = true) (hn0 : n ≠ 0) (hq : q % 6 = 4) : Says r A A' c c' q n w := by
  unfold Says
  have hl := h.lens
  have hb0 : Below w.heap.size w (w.alloc (.cells #[.int .i64 r.ki, .int .i64 r.st, .int .i64 r.ep, .int .i64 r.vi, .int .i64 r.fr, .int .i64 r.le, .slice A r.es.length c, .slice A' r.fd.length c'] 25)) := (Below.refl _ _).alloc (Nat.le_refl _) _
  have B0 : (w.alloc (.cells #[.int .i64 r.ki, .int .i64 r.st, .int .i64 r.ep, .int .i64 r.vi, .int .i64 r.fr, .int .i64 r.le, .slice A r.es.length c, .slice A' r.fd.length c'] 25)).heap[w.heap.size]? = some (.cells #[.int .i64 r.ki, .int .i64 r.st, .int .i64 r.ep, .int .i64 r.vi, .int .i64 r.fr, .int .i64 r.le, .slice A r.es.length c, .slice A' r.fd.length c'] 25 (0, 0)) := heap_alloc_new _ _
  have HG := Lib.hid (fun X => great_any r.ki r.st r.ep r.vi r.fr r.le r.es.length r.fd.length c c' A A' X hl.1 hl.2)
  have HW := h.works
  have HB0 := Lib.hid hb0
  have HX0 := Lib.hid B0
  have hgr2 := hgr
  simp only [Bool.or_eq_false_iff, decide_eq_false_iff_not] at hgr2
  have HC := Lib.hid (fun X hX => (h.check (by omega) (by omega)).out X hX r rfl rfl)
  have HC2 := Lib.hid (fun X (hX : Below w.heap.size w X) (g : Nat) (hg : X.heap[g]? = some (.cells #[.int .i64 0, .int .i64 0] 32 (0, 0))) => recCheck_any ({ r with fd := [⟨0, 0⟩] } : Rec) (ve := .slice A r.es.length c) (vf := .slice (some ⟨g, 0, none⟩) 1 1) (h.ask.keep hX) (RdB.mono (RdB.below h.es hX (Nat.le_refl _)) hX.size) (row_spot hg) (by dsimp only; omega) (by simp))
  have HBR := Lib.hid (fun hk => bare_fd hmay hk)
  have he : r.err = 0 := by unfold Rec.err; rw [hmay]; rfl
  rw [he] at HC
  have tn : decide (n = 0) = false := decide_eq_false hn0
  have tq : ((q : Int) % 6) = 4 := by omega
  rw [hgr] at HG
  clear h hb0 B0 hgr hgr2 he hmay
  obtain ⟨er2, her2⟩ : ∃ e, Hid (({ r with fd := [⟨0, 0⟩] } : Rec).err = e) := ⟨_, Lib.hid rfl⟩
  rw [her2.out] at HC2 HBR
  obtain ⟨ki, st, ep, vi, fr, le, es, fd⟩ := r
  dsimp only [Rec.v] at *
  go_enter Tryd.func7, Tryd.ntmps7
  go_wp2_with fail
  refine (HG.out _).mono ?_
  rintro e w1 ⟨rfl, hb1⟩
  have HB1 := Lib.hid (HB0.out.trans (hb1.mono HB0.out.size))
  have hX1 := (hb1.block w.heap.size (by simp)).trans HX0.out
  have hz1 : w.heap.size < w1.heap.size := by have := hb1.size; simp at this; omega
  have c0 : w1.cell? ⟨w.heap.size, 0, none⟩ = some (.int .i64 ki) := by rw [Lib.cell_of_heap hX1]; rfl
  have c1 : w1.cell? ⟨w.heap.size, 1, none⟩ = some (.int .i64 st) := by rw [Lib.cell_of_heap hX1]; rfl
  have c2 : w1.cell? ⟨w.heap.size, 2, none⟩ = some (.int .i64 ep) := by rw [Lib.cell_of_heap hX1]; rfl
  have c3 : w1.cell? ⟨w.heap.size, 3, none⟩ = some (.int .i64 vi) := by rw [Lib.cell_of_heap hX1]; rfl
  have c4 : w1.cell? ⟨w.heap.size, 4, none⟩ = some (.int .i64 fr) := by rw [Lib.cell_of_heap hX1]; rfl
  have c5 : w1.cell? ⟨w.heap.size, 5, none⟩ = some (.int .i64 le) := by rw [Lib.cell_of_heap hX1]; rfl
  have c6 : w1.cell? ⟨w.heap.size, 6, none⟩ = some (.slice A es.length c) := by rw [Lib.cell_of_heap hX1]; rfl
  have c7 : w1.cell? ⟨w.heap.size, 7, none⟩ = some (.slice A' fd.length c') := by rw [Lib.cell_of_heap hX1]; rfl
  have HX1 := Lib.hid hX1
  clear hb1 hX1
  go_wp2_with fail
  refine (HC.out _ HB1.out).mono ?_
  rintro e w2 ⟨rfl, hb2⟩
  have HB2 := Lib.hid (HB1.out.trans (hb2.mono HB1.out.size))
  have hX2 := (hb2.block w.heap.size hz1).trans HX1.out
  have hz2 : w.heap.size < w2.heap.size := by have := hb2.size; omega
  clear c0 c1 c2 c3 c4 c5 c6 c7
  have c0 : w2.cell? ⟨w.heap.size, 0, none⟩ = some (.int .i64 ki) := by rw [Lib.cell_of_heap hX2]; rfl
  have c1 : w2.cell? ⟨w.heap.size, 1, none⟩ = some (.int .i64 st) := by rw [Lib.cell_of_heap hX2]; rfl
  have c2 : w2.cell? ⟨w.heap.size, 2, none⟩ = some (.int .i64 ep) := by rw [Lib.cell_of_heap hX2]; rfl
  have c3 : w2.cell? ⟨w.heap.size, 3, none⟩ = some (.int .i64 vi) := by rw [Lib.cell_of_heap hX2]; rfl
  have c4 : w2.cell? ⟨w.heap.size, 4, none⟩ = some (.int .i64 fr) := by rw [Lib.cell_of_heap hX2]; rfl
  have c5 : w2.cell? ⟨w.heap.size, 5, none⟩ = some (.int .i64 le) := by rw [Lib.cell_of_heap hX2]; rfl
  have c6 : w2.cell? ⟨w.heap.size, 6, none⟩ = some (.slice A es.length c) := by rw [Lib.cell_of_heap hX2]; rfl
  have c7 : w2.cell? ⟨w.heap.size, 7, none⟩ = some (.slice A' fd.length c') := by rw [Lib.cell_of_heap hX2]; rfl
  clear hb2 hX2
  by_cases k0 : ki = 5
  · have t0 : decide (ki = 5) = true := decide_eq_true k0
    subst k0
    go_wp2_with fail
    refine (HW.out _ (by (repeat' (first | (with_reducible exact HB2.out) | (with_reducible refine Below.drew ?_) | (with_reducible refine below_drewN ?_ _) | (with_reducible refine Below.alloc ?_ ?_ _) | (with_reducible refine Below.setCell ?_ ?_ _) | go_size)))).mono ?_
    rintro e w3 ⟨rfl, hb3⟩
    have HB3 : Hid (Below w.heap.size w w3) := Below.trans (by (repeat' (first | (with_reducible exact HB2.out) | (with_reducible refine Below.drew ?_) | (with_reducible refine below_drewN ?_ _) | (with_reducible refine Below.alloc ?_ ?_ _) | (with_reducible refine Below.setCell ?_ ?_ _) | go_size))) (hb3.mono (by go_size))
    clear hb3
    go_wp2_with fail
    go_ret
    exact ⟨rfl, HB3.out⟩
  have t0 : decide (ki = 5) = false := decide_eq_false k0
  obtain rfl := HBR.out k0
  go_wp2_with fail
  refine (HC2.out _ (by (repeat' (first | (with_reducible exact HB2.out) | (with_reducible refine Below.drew ?_) | (with_reducible refine below_drewN ?_ _) | (with_reducible refine Below.alloc ?_ ?_ _) | (with_reducible refine Below.setCell ?_ ?_ _) | go_size))) (w2.heap.size + 1) (heap_alloc2_new _ _ _)).mono ?_
  rintro e w3 ⟨rfl, hb3⟩
  have HB3 : Hid (Below w.heap.size w w3) := Below.trans (by (repeat' (first | (with_reducible exact HB2.out) | (with_reducible refine Below.drew ?_) | (with_reducible refine below_drewN ?_ _) | (with_reducible refine Below.alloc ?_ ?_ _) | (with_reducible refine Below.setCell ?_ ?_ _) | go_size))) (hb3.mono (by go_size))
  clear hb3
  go_wp2_with fail
  refine (HW.out _ HB3.out).mono ?_
  rintro e w4 ⟨rfl, hb4⟩
  have HB4 := Lib.hid (HB3.out.trans (hb4.mono HB3.out.size))
  clear hb4
  go_wp2_with fail
  go_ret
  exact ⟨rfl, HB4.out⟩
set_option maxRecDepth 100000 in
set_option maxHeartbeats 4000000 in
theorem way_5 (r : Rec) (A A' : Option Addr) (c c' q : Nat) (n : Int) (w : World) (h : In r A A' c c' w) (hgr : (decide (500 < r.es.length) || decide (1000 < r.fd.length)) = false) (hmay : r.may = true) (hn0 : n ≠ 0) (hq : q % 6 = 5) : Says r A A' c c' q n w := by
  unfold Says
  have hl := h.lens
  have hb0 : Below w.heap.size w (w.alloc (.cells #[.int .i64 r.ki, .int .i64 r.st, .int .i64 r.ep, .int .i64 r.vi, .int .i64 r.fr, .int .i64 r.le, .slice A r.es.length c, .slice A' r.fd.length c'] 25)) := (Below.refl _ _).alloc (Nat.le_refl _) _
  have B0 : (w.alloc (.cells #[.int .i64 r.ki, .int .i64 r.st, .int .i64 r.ep, .int .i64 r.vi, .int .i64 r.fr, .int .i64 r.le, .slice A r.es.length c, .slice A' r.fd.length c'] 25)).heap[w.heap.size]? = some (.cells #[.int .i64 r.ki, .int .i64 r.st, .int .i64 r.ep, .int .i64 r.vi, .int .i64 r.fr, .int .i64 r.le, .slice A r.es.length c, .slice A' r.fd.length c'] 25 (0, 0)) := heap_alloc_new _ _
  have HG := Lib.hid (fun X => great_any r.ki r.st r.ep r.vi r.fr r.le r.es.length r.fd.length c c' A A' X hl.1 hl.2)
  have HW := h.works
  have HB0 := Lib.hid hb0
  have HX0 := Lib.hid B0
  have hgr2 := hgr
  simp only [Bool.or_eq_false_iff, decide_eq_false_iff_not] at hgr2
  have HC := Lib.hid (fun X hX => (h.check (by omega) (by omega)).out X hX r rfl rfl)
  have HC2 := Lib.hid (fun X (hX : Below w.heap.size w X) (g : Nat) (hg : X.heap[g]? = some (.cells #[.int .i64 1, .int .i64 1, .int .i64 r.st, .int .i64 0, .int .i64 1, .int .i64 0] 30 (0, 0))) => recCheck_any ({ r with es := [⟨1, ⟨1, r.st, 0, 1, 0⟩⟩] } : Rec) (ve := .slice (some ⟨g, 0, none⟩) 1 1) (vf := .slice A' r.fd.length c') (h.ask.keep hX) (row_entry hg) (RdB.mono (RdB.below h.fd hX (Nat.le_refl _)) hX.size) (by simp) (by dsimp only; omega))
  have HBR := Lib.hid (bare_es hmay)
  have he : r.err = 0 := by unfold Rec.err; rw [hmay]; rfl
  rw [he] at HC
  have tn : decide (n = 0) = false := decide_eq_false hn0
  have tq : ((q : Int) % 6) = 5 := by omega
  rw [hgr] at HG
  clear h hb0 B0 hgr hgr2 he hmay
  obtain ⟨er2, her2⟩ : ∃ e, Hid (({ r with es := [⟨1, ⟨1, r.st, 0, 1, 0⟩⟩] } : Rec).err = e) := ⟨_, Lib.hid rfl⟩
  rw [her2.out] at HC2 HBR
  obtain ⟨ki, st, ep, vi, fr, le, es, fd⟩ := r
  dsimp only [Rec.v] at *
  go_enter Tryd.func7, Tryd.ntmps7
  go_wp2_with fail
  refine (HG.out _).mono ?_
  rintro e w1 ⟨rfl, hb1⟩
  have HB1 := Lib.hid (HB0.out.trans (hb1.mono HB0.out.size))
  have hX1 := (hb1.block w.heap.size (by simp)).trans HX0.out
  have hz1 : w.heap.size < w1.heap.size := by have := hb1.size; simp at this; omega
  have c0 : w1.cell? ⟨w.heap.size, 0, none⟩ = some (.int .i64 ki) := by rw [Lib.cell_of_heap hX1]; rfl
  have c1 : w1.cell? ⟨w.heap.size, 1, none⟩ = some (.int .i64 st) := by rw [Lib.cell_of_heap hX1]; rfl
  have c2 : w1.cell? ⟨w.heap.size, 2, none⟩ = some (.int .i64 ep) := by rw [Lib.cell_of_heap hX1]; rfl
  have c3 : w1.cell? ⟨w.heap.size, 3, none⟩ = some (.int .i64 vi) := by rw [Lib.cell_of_heap hX1]; rfl
  have c4 : w1.cell? ⟨w.heap.size, 4, none⟩ = some (.int .i64 fr) := by rw [Lib.cell_of_heap hX1]; rfl
  have c5 : w1.cell? ⟨w.heap.size, 5, none⟩ = some (.int .i64 le) := by rw [Lib.cell_of_heap hX1]; rfl
  have c6 : w1.cell? ⟨w.heap.size, 6, none⟩ = some (.slice A es.length c) := by rw [Lib.cell_of_heap hX1]; rfl
  have c7 : w1.cell? ⟨w.heap.size, 7, none⟩ = some (.slice A' fd.length c') := by rw [Lib.cell_of_heap hX1]; rfl
  have HX1 := Lib.hid hX1
  clear hb1 hX1
  go_wp2_with fail
  refine (HC.out _ HB1.out).mono ?_
  rintro e w2 ⟨rfl, hb2⟩
  have HB2 := Lib.hid (HB1.out.trans (hb2.mono HB1.out.size))
  have hX2 := (hb2.block w.heap.size hz1).trans HX1.out
  have hz2 : w.heap.size < w2.heap.size := by have := hb2.size; omega
  clear c0 c1 c2 c3 c4 c5 c6 c7
  have c0 : w2.cell? ⟨w.heap.size, 0, none⟩ = some (.int .i64 ki) := by rw [Lib.cell_of_heap hX2]; rfl
  have c1 : w2.cell? ⟨w.heap.size, 1, none⟩ = some (.int .i64 st) := by rw [Lib.cell_of_heap hX2]; rfl
  have c2 : w2.cell? ⟨w.heap.size, 2, none⟩ = some (.int .i64 ep) := by rw [Lib.cell_of_heap hX2]; rfl
  have c3 : w2.cell? ⟨w.heap.size, 3, none⟩ = some (.int .i64 vi) := by rw [Lib.cell_of_heap hX2]; rfl
  have c4 : w2.cell? ⟨w.heap.size, 4, none⟩ = some (.int .i64 fr) := by rw [Lib.cell_of_heap hX2]; rfl
  have c5 : w2.cell? ⟨w.heap.size, 5, none⟩ = some (.int .i64 le) := by rw [Lib.cell_of_heap hX2]; rfl
  have c6 : w2.cell? ⟨w.heap.size, 6, none⟩ = some (.slice A es.length c) := by rw [Lib.cell_of_heap hX2]; rfl
  have c7 : w2.cell? ⟨w.heap.size, 7, none⟩ = some (.slice A' fd.length c') := by rw [Lib.cell_of_heap hX2]; rfl
  clear hb2 hX2
  by_cases k0 : ki = 2
  · have t0 : decide (ki = 2) = true := decide_eq_true k0
    subst k0
    by_cases k1 : fr < 64
    · have t1 : decide (fr < 64) = true := decide_eq_true k1
      obtain rfl : er2 = 0 := by rw [HBR.out]; simp [k1]
      go_wp2_with fail
      refine (HC2.out _ (by (repeat' (first | (with_reducible exact HB2.out) | (with_reducible refine Below.drew ?_) | (with_reducible refine below_drewN ?_ _) | (with_reducible refine Below.alloc ?_ ?_ _) | (with_reducible refine Below.setCell ?_ ?_ _) | go_size))) (w2.heap.size + 1) (heap_alloc2_new _ _ _)).mono ?_
      rintro e w3 ⟨rfl, hb3⟩
      have HB3 : Hid (Below w.heap.size w w3) := Below.trans (by (repeat' (first | (with_reducible exact HB2.out) | (with_reducible refine Below.drew ?_) | (with_reducible refine below_drewN ?_ _) | (with_reducible refine Below.alloc ?_ ?_ _) | (with_reducible refine Below.setCell ?_ ?_ _) | go_size))) (hb3.mono (by go_size))
      clear hb3
      go_wp2_with fail
      refine (HW.out _ HB3.out).mono ?_
      rintro e w4 ⟨rfl, hb4⟩
      have HB4 := Lib.hid (HB3.out.trans (hb4.mono HB3.out.size))
      clear hb4
      go_wp2_with fail
      go_ret
      exact ⟨rfl, HB4.out⟩
    · have t1 : decide (fr < 64) = false := decide_eq_false k1
      obtain rfl : er2 = 2 := by rw [HBR.out]; simp [k1]
      go_wp2_with fail
      refine (HC2.out _ (by (repeat' (first | (with_reducible exact HB2.out) | (with_reducible refine Below.drew ?_) | (with_reducible refine below_drewN ?_ _) | (with_reducible refine Below.alloc ?_ ?_ _) | (with_reducible refine Below.setCell ?_ ?_ _) | go_size))) (w2.heap.size + 1) (heap_alloc2_new _ _ _)).mono ?_
      rintro e w3 ⟨rfl, hb3⟩
      have HB3 : Hid (Below w.heap.size w w3) := Below.trans (by (repeat' (first | (with_reducible exact HB2.out) | (with_reducible refine Below.drew ?_) | (with_reducible refine below_drewN ?_ _) | (with_reducible refine Below.alloc ?_ ?_ _) | (with_reducible refine Below.setCell ?_ ?_ _) | go_size))) (hb3.mono (by go_size))
      clear hb3
      go_wp2_with fail
      refine (HW.out _ HB3.out).mono ?_
      rintro e w4 ⟨rfl, hb4⟩
      have HB4 := Lib.hid (HB3.out.trans (hb4.mono HB3.out.size))
      clear hb4
      go_wp2_with fail
      go_ret
      exact ⟨rfl, HB4.out⟩
  have t0 : decide (ki = 2) = false := decide_eq_false k0
  by_cases k2 : ki = 4
  · have t2 : decide (ki = 4) = true := decide_eq_true k2
    subst k2
    by_cases k1 : le ≤ 1
    · have t1 : decide (le ≤ 1) = true := decide_eq_true k1
      obtain rfl : er2 = 0 := by rw [HBR.out]; simp [k1]
      go_wp2_with fail
      refine (HC2.out _ (by (repeat' (first | (with_reducible exact HB2.out) | (with_reducible refine Below.drew ?_) | (with_reducible refine below_drewN ?_ _) | (with_reducible refine Below.alloc ?_ ?_ _) | (with_reducible refine Below.setCell ?_ ?_ _) | go_size))) (w2.heap.size + 1) (heap_alloc2_new _ _ _)).mono ?_
      rintro e w3 ⟨rfl, hb3⟩
      have HB3 : Hid (Below w.heap.size w w3) := Below.trans (by (repeat' (first | (with_reducible exact HB2.out) | (with_reducible refine Below.drew ?_) | (with_reducible refine below_drewN ?_ _) | (with_reducible refine Below.alloc ?_ ?_ _) | (with_reducible refine Below.setCell ?_ ?_ _) | go_size))) (hb3.mono (by go_size))
      clear hb3
      go_wp2_with fail
      refine (HW.out _ HB3.out).mono ?_
      rintro e w4 ⟨rfl, hb4⟩
      have HB4 := Lib.hid (HB3.out.trans (hb4.mono HB3.out.size))
      clear hb4
      go_wp2_with fail
      go_ret
      exact ⟨rfl, HB4.out⟩
    · have t1 : decide (le ≤ 1) = false := decide_eq_false k1
      obtain rfl : er2 = 2 := by rw [HBR.out]; simp [k1]
      go_wp2_with fail
      refine (HC2.out _ (by (repeat' (first | (with_reducible exact HB2.out) | (with_reducible refine Below.drew ?_) | (with_reducible refine below_drewN ?_ _) | (with_reducible refine Below.alloc ?_ ?_ _) | (with_reducible refine Below.setCell ?_ ?_ _) | go_size))) (w2.heap.size + 1) (heap_alloc2_new _ _ _)).mono ?_
      rintro e w3 ⟨rfl, hb3⟩
      have HB3 : Hid (Below w.heap.size w w3) := Below.trans (by (repeat' (first | (with_reducible exact HB2.out) | (with_reducible refine Below.drew ?_) | (with_reducible refine below_drewN ?_ _) | (with_reducible refine Below.alloc ?_ ?_ _) | (with_reducible refine Below.setCell ?_ ?_ _) | go_size))) (hb3.mono (by go_size))
      clear hb3
      go_wp2_with fail
      refine (HW.out _ HB3.out).mono ?_
      rintro e w4 ⟨rfl, hb4⟩
      have HB4 := Lib.hid (HB3.out.trans (hb4.mono HB3.out.size))
      clear hb4
      go_wp2_with fail
      go_ret
      exact ⟨rfl, HB4.out⟩
  have t2 : decide (ki = 4) = false := decide_eq_false k2
  obtain rfl : er2 = 2 := by rw [HBR.out, t0, t2]; rfl
  go_wp2_with fail
  refine (HC2.out _ (by (repeat' (first | (with_reducible exact HB2.out) | (with_reducible refine Below.drew ?_) | (with_reducible refine below_drewN ?_ _) | (with_reducible refine Below.alloc ?_ ?_ _) | (with_reducible refine Below.setCell ?_ ?_ _) | go_size))) (w2.heap.size + 1) (heap_alloc2_new _ _ _)).mono ?_
  rintro e w3 ⟨rfl, hb3⟩
  have HB3 : Hid (Below w.heap.size w w3) := Below.trans (by (repeat' (first | (with_reducible exact HB2.out) | (with_reducible refine Below.drew ?_) | (with_reducible refine below_drewN ?_ _) | (with_reducible refine Below.alloc ?_ ?_ _) | (with_reducible refine Below.setCell ?_ ?_ _) | go_size))) (hb3.mono (by go_size))
  clear hb3
  go_wp2_with fail
  refine (HW.out _ HB3.out).mono ?_
  rintro e w4 ⟨rfl, hb4⟩
  have HB4 := Lib.hid (HB3.out.trans (hb4.mono HB3.out.size))
  clear hb4
  go_wp2_with fail
  go_ret
  exact ⟨rfl, HB4.out⟩
theorem walk (r : Rec) (A A' : Option Addr) (c c' q : Nat) (n : Int) (w : World) (hA : AskR w) (hE : EsB w.heap.size w (.slice A r.es.length c) r.es) (hF : FdB w.heap.size w (.slice A' r.fd.length c') r.fd) (_ : r.ints) (_ : q < 256) (_ : (Lit.int .i64 n).wf = true) : Says r A A' c c' q n w := by
  have h : In r A A' c c' w := ⟨hA, hE, hF⟩
  rcases hgr : (decide (500 < r.es.length) || decide (1000 < r.fd.length)) with _ | _
  · rcases hm : r.may with _ | _
    · exact way_not r A A' c c' q n w h (.inr (.inl hm))
    · by_cases hn : n = 0
      · exact way_not r A A' c c' q n w h (.inr (.inr hn))
      · rcases (show q % 6 = 0 ∨ q % 6 = 1 ∨ q % 6 = 2 ∨ q % 6 = 3 ∨ q % 6 = 4 ∨ q % 6 = 5 by omega) with hq | hq | hq | hq | hq | hq
        · exact way_0 r A A' c c' q n w h hgr hm hn hq
        · exact way_1 r A A' c c' q n w h hgr hm hn hq
        · exact way_2 r A A' c c' q n w h hgr hm hn hq
        · exact way_3 r A A' c c' q n w h hgr hm hn hq
        · exact way_4 r A A' c c' q n w h hgr hm hn hq
        · exact way_5 r A A' c c' q n w h hgr hm hn hq
  · exact way_not r A A' c c' q n w h (.inl hgr)
end Go.Proofs.YtcbeommmacnkgaaDoor.recordsBareW
