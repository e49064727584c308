/-
  The walk of the law OrdersField: it returns true and writes nothing that was there.
-/
import Derived.Test.YtncbjekmkihilaaDoorOWorks
namespace Go.Proofs.YtncbjekmkihilaaDoor.ordersFieldW
open Go.RowKit Go.Sort
def ok (o : Od) (w : World) (n : Nat) (m : Int) : Prop := Calls Tryd.prog 8 #[o.v, .int .u8 n, .int .i64 m] w fun e w' => e = .returned (.bool true) ∧ Below w.heap.size w w'
set_option maxRecDepth 100000 in
set_option maxHeartbeats 4000000 in
theorem walk_not (o : Od) (w : World) (n : Nat) (m : Int) (hA : Asked w) (hm : o.may = false) : ok o w n m := by
  have h3 := fun X hX => check_any o X hX
  rw [show o.err = 2 by unfold Od.err; rw [hm]; rfl] at h3
  have H5 := Lib.hid works_any
  unfold ok
  clear hm
  obtain ⟨a, b, c, d, f⟩ := o
  simp only [Od.v] at *
  have H3 := Lib.hid h3
  clear h3
  have hbA : Below w.heap.size w (w.alloc (.cells #[.int .i64 a, .int .i64 b, .int .i64 c, .int .i64 d, .int .i64 f] 23)) := (Below.refl _ _).alloc (Nat.le_refl _) _
  have hA0 := hA.keep hbA
  go_enter Tryd.func8, Tryd.ntmps8
  go_wp2_with fail
  refine (H3.out _ hA0).mono ?_
  rintro e w1 ⟨rfl, hb1⟩
  have hbz := hbA.trans (hb1.mono hbA.size)
  have hA1 := hA.keep hbz
  clear hb1 hA0 H3 hbA
  go_wp2_with fail
  refine (H5.out _ hA1).mono ?_
  rintro e w2 ⟨rfl, hb2⟩
  have hbz := hbz.trans (hb2.mono hbz.size)
  clear hb2
  go_wp2_with fail
  go_ret
  exact ⟨rfl, by repeat' (first | (with_reducible exact hbz) | (with_reducible refine below_drewN ?_ _) | (with_reducible refine Below.alloc ?_ ?_ _) | (with_reducible refine Below.setCell ?_ ?_ _) | go_size)⟩
theorem may_0 {a b c d f m : Int} (h : (Od.mk a b c d f).may = true) : (Od.mk m b c d f).may = decide (1 ≤ m ∧ m ≤ 2147483647) := by
  unfold Od.may at h ⊢
  have h := of_decide_eq_true h
  refine decide_eq_decide.2 ?_
  simp only at h ⊢
  omega
set_option maxRecDepth 100000 in
set_option maxHeartbeats 4000000 in
theorem walk_0 (o : Od) (w : World) (k : Nat) (m : Int) (hA : Asked w) (hm : o.may = true) : ok o w (5 * k + 0) m := by
  have h3 := fun X hX => check_any o X hX
  rw [show o.err = 0 by unfold Od.err; rw [hm]; rfl] at h3
  have H5 := Lib.hid works_any
  unfold ok
  obtain ⟨a, b, c, d, f⟩ := o
  have hq := may_0 (m := m) hm
  have h4 := fun X hX => check_any (Od.mk m b c d f) X hX
  have hE : (Od.mk m b c d f).err = if decide (1 ≤ m ∧ m ≤ 2147483647) then 0 else 2 := by rw [← hq]; rfl
  clear hm hq
  simp only [Od.v] at *
  have H3 := Lib.hid h3
  clear h3
  have hrem : (((5 * k + 0 : Nat) : Int)).tmod 5 = 0 := by rw [Int.tmod_eq_emod_of_nonneg (by omega)]; omega
  have B0 := Box5.new w (.int .i64 a) (.int .i64 b) (.int .i64 c) (.int .i64 d) (.int .i64 f) 23
  have hbA : Below w.heap.size w (w.alloc (.cells #[.int .i64 a, .int .i64 b, .int .i64 c, .int .i64 d, .int .i64 f] 23)) := (Below.refl _ _).alloc (Nat.le_refl _) _
  have hA0 := hA.keep hbA
  go_enter Tryd.func8, Tryd.ntmps8
  go_wp2_with fail
  refine (H3.out _ hA0).mono ?_
  rintro e w1 ⟨rfl, hb1⟩
  have B1 := B0.later hb1
  have hbz := hbA.trans (hb1.mono hbA.size)
  clear hb1 hA0 H3 hbA
  obtain ⟨x0, x1, x2, x3, x4, xf, xs⟩ := id B1
  go_wp2_with fail
  have hb2 : Below w.heap.size w (w1.setCell ⟨w.heap.size, 0, none⟩ (.int .i64 m)) := hbz.setCell (Nat.le_refl _) _
  have hA2 := hA.keep hb2
  clear B0 B1 x0 x1 x2 x3 x4 xf xs hbz hrem
  by_cases l : 1 ≤ m
  · have tl : decide (1 ≤ m) = true := decide_eq_true l
    by_cases h : m ≤ 2147483647
    · have th : decide (m ≤ 2147483647) = true := decide_eq_true h
      rw [hE, if_pos (by simp; omega)] at h4
      have H4 := Lib.hid h4
      clear h4 hE
      refine (H4.out _ hA2).mono ?_
      rintro e w2 ⟨rfl, hb3⟩
      have hb4 := hb2.trans (hb3.mono hb2.size)
      have hA4 := hA.keep hb4
      clear hb3 hb2 H4
      go_wp2_with fail
      refine (H5.out _ hA4).mono ?_
      rintro e w3 ⟨rfl, hb5⟩
      have hbz := hb4.trans (hb5.mono hb4.size)
      clear hb5
      go_wp2_with fail
      go_ret
      exact ⟨rfl, by repeat' (first | (with_reducible exact hbz) | (with_reducible refine below_drewN ?_ _) | (with_reducible refine Below.alloc ?_ ?_ _) | (with_reducible refine Below.setCell ?_ ?_ _) | go_size)⟩
    · have th : decide (m ≤ 2147483647) = false := decide_eq_false h
      rw [hE, if_neg (by simp; omega)] at h4
      have H4 := Lib.hid h4
      clear h4 hE
      refine (H4.out _ hA2).mono ?_
      rintro e w2 ⟨rfl, hb3⟩
      have hb4 := hb2.trans (hb3.mono hb2.size)
      have hA4 := hA.keep hb4
      clear hb3 hb2 H4
      go_wp2_with fail
      refine (H5.out _ hA4).mono ?_
      rintro e w3 ⟨rfl, hb5⟩
      have hbz := hb4.trans (hb5.mono hb4.size)
      clear hb5
      go_wp2_with fail
      go_ret
      exact ⟨rfl, by repeat' (first | (with_reducible exact hbz) | (with_reducible refine below_drewN ?_ _) | (with_reducible refine Below.alloc ?_ ?_ _) | (with_reducible refine Below.setCell ?_ ?_ _) | go_size)⟩
  · have tl : decide (1 ≤ m) = false := decide_eq_false l
    rw [hE, if_neg (by simp; omega)] at h4
    have H4 := Lib.hid h4
    clear h4 hE
    refine (H4.out _ hA2).mono ?_
    rintro e w2 ⟨rfl, hb3⟩
    have hb4 := hb2.trans (hb3.mono hb2.size)
    have hA4 := hA.keep hb4
    clear hb3 hb2 H4
    go_wp2_with fail
    refine (H5.out _ hA4).mono ?_
    rintro e w3 ⟨rfl, hb5⟩
    have hbz := hb4.trans (hb5.mono hb4.size)
    clear hb5
    go_wp2_with fail
    go_ret
    exact ⟨rfl, by repeat' (first | (with_reducible exact hbz) | (with_reducible refine below_drewN ?_ _) | (with_reducible refine Below.alloc ?_ ?_ _) | (with_reducible refine Below.setCell ?_ ?_ _) | go_size)⟩
theorem may_1 {a b c d f m : Int} (h : (Od.mk a b c d f).may = true) : (Od.mk a m c d f).may = decide (0 ≤ m ∧ m ≤ 3) := by
  unfold Od.may at h ⊢
  have h := of_decide_eq_true h
  refine decide_eq_decide.2 ?_
  simp only at h ⊢
  omega
set_option maxRecDepth 100000 in
set_option maxHeartbeats 4000000 in
theorem walk_1 (o : Od) (w : World) (k : Nat) (m : Int) (hA : Asked w) (hm : o.may = true) : ok o w (5 * k + 1) m := by
  have h3 := fun X hX => check_any o X hX
  rw [show o.err = 0 by unfold Od.err; rw [hm]; rfl] at h3
  have H5 := Lib.hid works_any
  unfold ok
  obtain ⟨a, b, c, d, f⟩ := o
  have hq := may_1 (m := m) hm
  have h4 := fun X hX => check_any (Od.mk a m c d f) X hX
  have hE : (Od.mk a m c d f).err = if decide (0 ≤ m ∧ m ≤ 3) then 0 else 2 := by rw [← hq]; rfl
  clear hm hq
  simp only [Od.v] at *
  have H3 := Lib.hid h3
  clear h3
  have hrem : (((5 * k + 1 : Nat) : Int)).tmod 5 = 1 := by rw [Int.tmod_eq_emod_of_nonneg (by omega)]; omega
  have B0 := Box5.new w (.int .i64 a) (.int .i64 b) (.int .i64 c) (.int .i64 d) (.int .i64 f) 23
  have hbA : Below w.heap.size w (w.alloc (.cells #[.int .i64 a, .int .i64 b, .int .i64 c, .int .i64 d, .int .i64 f] 23)) := (Below.refl _ _).alloc (Nat.le_refl _) _
  have hA0 := hA.keep hbA
  go_enter Tryd.func8, Tryd.ntmps8
  go_wp2_with fail
  refine (H3.out _ hA0).mono ?_
  rintro e w1 ⟨rfl, hb1⟩
  have B1 := B0.later hb1
  have hbz := hbA.trans (hb1.mono hbA.size)
  clear hb1 hA0 H3 hbA
  obtain ⟨x0, x1, x2, x3, x4, xf, xs⟩ := id B1
  go_wp2_with fail
  have hb2 : Below w.heap.size w (w1.setCell ⟨w.heap.size, 1, none⟩ (.int .i64 m)) := hbz.setCell (Nat.le_refl _) _
  have hA2 := hA.keep hb2
  clear B0 B1 x0 x1 x2 x3 x4 xf xs hbz hrem
  by_cases l : 0 ≤ m
  · have tl : decide (0 ≤ m) = true := decide_eq_true l
    by_cases h : m ≤ 3
    · have th : decide (m ≤ 3) = true := decide_eq_true h
      rw [hE, if_pos (by simp; omega)] at h4
      have H4 := Lib.hid h4
      clear h4 hE
      refine (H4.out _ hA2).mono ?_
      rintro e w2 ⟨rfl, hb3⟩
      have hb4 := hb2.trans (hb3.mono hb2.size)
      have hA4 := hA.keep hb4
      clear hb3 hb2 H4
      go_wp2_with fail
      refine (H5.out _ hA4).mono ?_
      rintro e w3 ⟨rfl, hb5⟩
      have hbz := hb4.trans (hb5.mono hb4.size)
      clear hb5
      go_wp2_with fail
      go_ret
      exact ⟨rfl, by repeat' (first | (with_reducible exact hbz) | (with_reducible refine below_drewN ?_ _) | (with_reducible refine Below.alloc ?_ ?_ _) | (with_reducible refine Below.setCell ?_ ?_ _) | go_size)⟩
    · have th : decide (m ≤ 3) = false := decide_eq_false h
      rw [hE, if_neg (by simp; omega)] at h4
      have H4 := Lib.hid h4
      clear h4 hE
      refine (H4.out _ hA2).mono ?_
      rintro e w2 ⟨rfl, hb3⟩
      have hb4 := hb2.trans (hb3.mono hb2.size)
      have hA4 := hA.keep hb4
      clear hb3 hb2 H4
      go_wp2_with fail
      refine (H5.out _ hA4).mono ?_
      rintro e w3 ⟨rfl, hb5⟩
      have hbz := hb4.trans (hb5.mono hb4.size)
      clear hb5
      go_wp2_with fail
      go_ret
      exact ⟨rfl, by repeat' (first | (with_reducible exact hbz) | (with_reducible refine below_drewN ?_ _) | (with_reducible refine Below.alloc ?_ ?_ _) | (with_reducible refine Below.setCell ?_ ?_ _) | go_size)⟩
  · have tl : decide (0 ≤ m) = false := decide_eq_false l
    rw [hE, if_neg (by simp; omega)] at h4
    have H4 := Lib.hid h4
    clear h4 hE
    refine (H4.out _ hA2).mono ?_
    rintro e w2 ⟨rfl, hb3⟩
    have hb4 := hb2.trans (hb3.mono hb2.size)
    have hA4 := hA.keep hb4
    clear hb3 hb2 H4
    go_wp2_with fail
    refine (H5.out _ hA4).mono ?_
    rintro e w3 ⟨rfl, hb5⟩
    have hbz := hb4.trans (hb5.mono hb4.size)
    clear hb5
    go_wp2_with fail
    go_ret
    exact ⟨rfl, by repeat' (first | (with_reducible exact hbz) | (with_reducible refine below_drewN ?_ _) | (with_reducible refine Below.alloc ?_ ?_ _) | (with_reducible refine Below.setCell ?_ ?_ _) | go_size)⟩
theorem may_2 {a b c d f m : Int} (h : (Od.mk a b c d f).may = true) : (Od.mk a b m d f).may = decide ((-1) ≤ m ∧ m ≤ 2147483647) := by
  unfold Od.may at h ⊢
  have h := of_decide_eq_true h
  refine decide_eq_decide.2 ?_
  simp only at h ⊢
  omega
set_option maxRecDepth 100000 in
set_option maxHeartbeats 4000000 in
theorem walk_2 (o : Od) (w : World) (k : Nat) (m : Int) (hA : Asked w) (hm : o.may = true) : ok o w (5 * k + 2) m := by
  have h3 := fun X hX => check_any o X hX
  rw [show o.err = 0 by unfold Od.err; rw [hm]; rfl] at h3
  have H5 := Lib.hid works_any
  unfold ok
  obtain ⟨a, b, c, d, f⟩ := o
  have hq := may_2 (m := m) hm
  have h4 := fun X hX => check_any (Od.mk a b m d f) X hX
  have hE : (Od.mk a b m d f).err = if decide ((-1) ≤ m ∧ m ≤ 2147483647) then 0 else 2 := by rw [← hq]; rfl
  clear hm hq
  simp only [Od.v] at *
  have H3 := Lib.hid h3
  clear h3
  have hrem : (((5 * k + 2 : Nat) : Int)).tmod 5 = 2 := by rw [Int.tmod_eq_emod_of_nonneg (by omega)]; omega
  have B0 := Box5.new w (.int .i64 a) (.int .i64 b) (.int .i64 c) (.int .i64 d) (.int .i64 f) 23
  have hbA : Below w.heap.size w (w.alloc (.cells #[.int .i64 a, .int .i64 b, .int .i64 c, .int .i64 d, .int .i64 f] 23)) := (Below.refl _ _).alloc (Nat.le_refl _) _
  have hA0 := hA.keep hbA
  go_enter Tryd.func8, Tryd.ntmps8
  go_wp2_with fail
  refine (H3.out _ hA0).mono ?_
  rintro e w1 ⟨rfl, hb1⟩
  have B1 := B0.later hb1
  have hbz := hbA.trans (hb1.mono hbA.size)
  clear hb1 hA0 H3 hbA
  obtain ⟨x0, x1, x2, x3, x4, xf, xs⟩ := id B1
  go_wp2_with fail
  have hb2 : Below w.heap.size w (w1.setCell ⟨w.heap.size, 2, none⟩ (.int .i64 m)) := hbz.setCell (Nat.le_refl _) _
  have hA2 := hA.keep hb2
  clear B0 B1 x0 x1 x2 x3 x4 xf xs hbz hrem
  by_cases l : (-1) ≤ m
  · have tl : decide ((-1) ≤ m) = true := decide_eq_true l
    by_cases h : m ≤ 2147483647
    · have th : decide (m ≤ 2147483647) = true := decide_eq_true h
      rw [hE, if_pos (by simp; omega)] at h4
      have H4 := Lib.hid h4
      clear h4 hE
      refine (H4.out _ hA2).mono ?_
      rintro e w2 ⟨rfl, hb3⟩
      have hb4 := hb2.trans (hb3.mono hb2.size)
      have hA4 := hA.keep hb4
      clear hb3 hb2 H4
      go_wp2_with fail
      refine (H5.out _ hA4).mono ?_
      rintro e w3 ⟨rfl, hb5⟩
      have hbz := hb4.trans (hb5.mono hb4.size)
      clear hb5
      go_wp2_with fail
      go_ret
      exact ⟨rfl, by repeat' (first | (with_reducible exact hbz) | (with_reducible refine below_drewN ?_ _) | (with_reducible refine Below.alloc ?_ ?_ _) | (with_reducible refine Below.setCell ?_ ?_ _) | go_size)⟩
    · have th : decide (m ≤ 2147483647) = false := decide_eq_false h
      rw [hE, if_neg (by simp; omega)] at h4
      have H4 := Lib.hid h4
      clear h4 hE
      refine (H4.out _ hA2).mono ?_
      rintro e w2 ⟨rfl, hb3⟩
      have hb4 := hb2.trans (hb3.mono hb2.size)
      have hA4 := hA.keep hb4
      clear hb3 hb2 H4
      go_wp2_with fail
      refine (H5.out _ hA4).mono ?_
      rintro e w3 ⟨rfl, hb5⟩
      have hbz := hb4.trans (hb5.mono hb4.size)
      clear hb5
      go_wp2_with fail
      go_ret
      exact ⟨rfl, by repeat' (first | (with_reducible exact hbz) | (with_reducible refine below_drewN ?_ _) | (with_reducible refine Below.alloc ?_ ?_ _) | (with_reducible refine Below.setCell ?_ ?_ _) | go_size)⟩
  · have tl : decide ((-1) ≤ m) = false := decide_eq_false l
    rw [hE, if_neg (by simp; omega)] at h4
    have H4 := Lib.hid h4
    clear h4 hE
    refine (H4.out _ hA2).mono ?_
    rintro e w2 ⟨rfl, hb3⟩
    have hb4 := hb2.trans (hb3.mono hb2.size)
    have hA4 := hA.keep hb4
    clear hb3 hb2 H4
    go_wp2_with fail
    refine (H5.out _ hA4).mono ?_
    rintro e w3 ⟨rfl, hb5⟩
    have hbz := hb4.trans (hb5.mono hb4.size)
    clear hb5
    go_wp2_with fail
    go_ret
    exact ⟨rfl, by repeat' (first | (with_reducible exact hbz) | (with_reducible refine below_drewN ?_ _) | (with_reducible refine Below.alloc ?_ ?_ _) | (with_reducible refine Below.setCell ?_ ?_ _) | go_size)⟩
theorem may_3 {a b c d f m : Int} (h : (Od.mk a b c d f).may = true) : (Od.mk a b c m f).may = decide (1 ≤ m ∧ m ≤ 4) := by
  unfold Od.may at h ⊢
  have h := of_decide_eq_true h
  refine decide_eq_decide.2 ?_
  simp only at h ⊢
  omega
set_option maxRecDepth 100000 in
set_option maxHeartbeats 4000000 in
theorem walk_3 (o : Od) (w : World) (k : Nat) (m : Int) (hA : Asked w) (hm : o.may = true) : ok o w (5 * k + 3) m := by
  have h3 := fun X hX => check_any o X hX
  rw [show o.err = 0 by unfold Od.err; rw [hm]; rfl] at h3
  have H5 := Lib.hid works_any
  unfold ok
  obtain ⟨a, b, c, d, f⟩ := o
  have hq := may_3 (m := m) hm
  have h4 := fun X hX => check_any (Od.mk a b c m f) X hX
  have hE : (Od.mk a b c m f).err = if decide (1 ≤ m ∧ m ≤ 4) then 0 else 2 := by rw [← hq]; rfl
  clear hm hq
  simp only [Od.v] at *
  have H3 := Lib.hid h3
  clear h3
  have hrem : (((5 * k + 3 : Nat) : Int)).tmod 5 = 3 := by rw [Int.tmod_eq_emod_of_nonneg (by omega)]; omega
  have B0 := Box5.new w (.int .i64 a) (.int .i64 b) (.int .i64 c) (.int .i64 d) (.int .i64 f) 23
  have hbA : Below w.heap.size w (w.alloc (.cells #[.int .i64 a, .int .i64 b, .int .i64 c, .int .i64 d, .int .i64 f] 23)) := (Below.refl _ _).alloc (Nat.le_refl _) _
  have hA0 := hA.keep hbA
  go_enter Tryd.func8, Tryd.ntmps8
  go_wp2_with fail
  refine (H3.out _ hA0).mono ?_
  rintro e w1 ⟨rfl, hb1⟩
  have B1 := B0.later hb1
  have hbz := hbA.trans (hb1.mono hbA.size)
  clear hb1 hA0 H3 hbA
  obtain ⟨x0, x1, x2, x3, x4, xf, xs⟩ := id B1
  go_wp2_with fail
  have hb2 : Below w.heap.size w (w1.setCell ⟨w.heap.size, 3, none⟩ (.int .i64 m)) := hbz.setCell (Nat.le_refl _) _
  have hA2 := hA.keep hb2
  clear B0 B1 x0 x1 x2 x3 x4 xf xs hbz hrem
  by_cases l : 1 ≤ m
  · have tl : decide (1 ≤ m) = true := decide_eq_true l
    by_cases h : m ≤ 4
    · have th : decide (m ≤ 4) = true := decide_eq_true h
      rw [hE, if_pos (by simp; omega)] at h4
      have H4 := Lib.hid h4
      clear h4 hE
      refine (H4.out _ hA2).mono ?_
      rintro e w2 ⟨rfl, hb3⟩
      have hb4 := hb2.trans (hb3.mono hb2.size)
      have hA4 := hA.keep hb4
      clear hb3 hb2 H4
      go_wp2_with fail
      refine (H5.out _ hA4).mono ?_
      rintro e w3 ⟨rfl, hb5⟩
      have hbz := hb4.trans (hb5.mono hb4.size)
      clear hb5
      go_wp2_with fail
      go_ret
      exact ⟨rfl, by repeat' (first | (with_reducible exact hbz) | (with_reducible refine below_drewN ?_ _) | (with_reducible refine Below.alloc ?_ ?_ _) | (with_reducible refine Below.setCell ?_ ?_ _) | go_size)⟩
    · have th : decide (m ≤ 4) = false := decide_eq_false h
      rw [hE, if_neg (by simp; omega)] at h4
      have H4 := Lib.hid h4
      clear h4 hE
      refine (H4.out _ hA2).mono ?_
      rintro e w2 ⟨rfl, hb3⟩
      have hb4 := hb2.trans (hb3.mono hb2.size)
      have hA4 := hA.keep hb4
      clear hb3 hb2 H4
      go_wp2_with fail
      refine (H5.out _ hA4).mono ?_
      rintro e w3 ⟨rfl, hb5⟩
      have hbz := hb4.trans (hb5.mono hb4.size)
      clear hb5
      go_wp2_with fail
      go_ret
      exact ⟨rfl, by repeat' (first | (with_reducible exact hbz) | (with_reducible refine below_drewN ?_ _) | (with_reducible refine Below.alloc ?_ ?_ _) | (with_reducible refine Below.setCell ?_ ?_ _) | go_size)⟩
  · have tl : decide (1 ≤ m) = false := decide_eq_false l
    rw [hE, if_neg (by simp; omega)] at h4
    have H4 := Lib.hid h4
    clear h4 hE
    refine (H4.out _ hA2).mono ?_
    rintro e w2 ⟨rfl, hb3⟩
    have hb4 := hb2.trans (hb3.mono hb2.size)
    have hA4 := hA.keep hb4
    clear hb3 hb2 H4
    go_wp2_with fail
    refine (H5.out _ hA4).mono ?_
    rintro e w3 ⟨rfl, hb5⟩
    have hbz := hb4.trans (hb5.mono hb4.size)
    clear hb5
    go_wp2_with fail
    go_ret
    exact ⟨rfl, by repeat' (first | (with_reducible exact hbz) | (with_reducible refine below_drewN ?_ _) | (with_reducible refine Below.alloc ?_ ?_ _) | (with_reducible refine Below.setCell ?_ ?_ _) | go_size)⟩
theorem may_4 {a b c d f m : Int} (h : (Od.mk a b c d f).may = true) : (Od.mk a b c d m).may = decide ((-1048576) ≤ m ∧ m ≤ 1048576) := by
  unfold Od.may at h ⊢
  have h := of_decide_eq_true h
  refine decide_eq_decide.2 ?_
  simp only at h ⊢
  omega
set_option maxRecDepth 100000 in
set_option maxHeartbeats 4000000 in
theorem walk_4 (o : Od) (w : World) (k : Nat) (m : Int) (hA : Asked w) (hm : o.may = true) : ok o w (5 * k + 4) m := by
  have h3 := fun X hX => check_any o X hX
  rw [show o.err = 0 by unfold Od.err; rw [hm]; rfl] at h3
  have H5 := Lib.hid works_any
  unfold ok
  obtain ⟨a, b, c, d, f⟩ := o
  have hq := may_4 (m := m) hm
  have h4 := fun X hX => check_any (Od.mk a b c d m) X hX
  have hE : (Od.mk a b c d m).err = if decide ((-1048576) ≤ m ∧ m ≤ 1048576) then 0 else 2 := by rw [← hq]; rfl
  clear hm hq
  simp only [Od.v] at *
  have H3 := Lib.hid h3
  clear h3
  have hrem : (((5 * k + 4 : Nat) : Int)).tmod 5 = 4 := by rw [Int.tmod_eq_emod_of_nonneg (by omega)]; omega
  have B0 := Box5.new w (.int .i64 a) (.int .i64 b) (.int .i64 c) (.int .i64 d) (.int .i64 f) 23
  have hbA : Below w.heap.size w (w.alloc (.cells #[.int .i64 a, .int .i64 b, .int .i64 c, .int .i64 d, .int .i64 f] 23)) := (Below.refl _ _).alloc (Nat.le_refl _) _
  have hA0 := hA.keep hbA
  go_enter Tryd.func8, Tryd.ntmps8
  go_wp2_with fail
  refine (H3.out _ hA0).mono ?_
  rintro e w1 ⟨rfl, hb1⟩
  have B1 := B0.later hb1
  have hbz := hbA.trans (hb1.mono hbA.size)
  clear hb1 hA0 H3 hbA
  obtain ⟨x0, x1, x2, x3, x4, xf, xs⟩ := id B1
  go_wp2_with fail
  have hb2 : Below w.heap.size w (w1.setCell ⟨w.heap.size, 4, none⟩ (.int .i64 m)) := hbz.setCell (Nat.le_refl _) _
  have hA2 := hA.keep hb2
  clear B0 B1 x0 x1 x2 x3 x4 xf xs hbz hrem
  by_cases l : (-1048576) ≤ m
  · have tl : decide ((-1048576) ≤ m) = true := decide_eq_true l
    by_cases h : m ≤ 1048576
    · have th : decide (m ≤ 1048576) = true := decide_eq_true h
      rw [hE, if_pos (by simp; omega)] at h4
      have H4 := Lib.hid h4
      clear h4 hE
      refine (H4.out _ hA2).mono ?_
      rintro e w2 ⟨rfl, hb3⟩
      have hb4 := hb2.trans (hb3.mono hb2.size)
      have hA4 := hA.keep hb4
      clear hb3 hb2 H4
      go_wp2_with fail
      refine (H5.out _ hA4).mono ?_
      rintro e w3 ⟨rfl, hb5⟩
      have hbz := hb4.trans (hb5.mono hb4.size)
      clear hb5
      go_wp2_with fail
      go_ret
      exact ⟨rfl, by repeat' (first | (with_reducible exact hbz) | (with_reducible refine below_drewN ?_ _) | (with_reducible refine Below.alloc ?_ ?_ _) | (with_reducible refine Below.setCell ?_ ?_ _) | go_size)⟩
    · have th : decide (m ≤ 1048576) = false := decide_eq_false h
      rw [hE, if_neg (by simp; omega)] at h4
      have H4 := Lib.hid h4
      clear h4 hE
      refine (H4.out _ hA2).mono ?_
      rintro e w2 ⟨rfl, hb3⟩
      have hb4 := hb2.trans (hb3.mono hb2.size)
      have hA4 := hA.keep hb4
      clear hb3 hb2 H4
      go_wp2_with fail
      refine (H5.out _ hA4).mono ?_
      rintro e w3 ⟨rfl, hb5⟩
      have hbz := hb4.trans (hb5.mono hb4.size)
      clear hb5
      go_wp2_with fail
      go_ret
      exact ⟨rfl, by repeat' (first | (with_reducible exact hbz) | (with_reducible refine below_drewN ?_ _) | (with_reducible refine Below.alloc ?_ ?_ _) | (with_reducible refine Below.setCell ?_ ?_ _) | go_size)⟩
  · have tl : decide ((-1048576) ≤ m) = false := decide_eq_false l
    rw [hE, if_neg (by simp; omega)] at h4
    have H4 := Lib.hid h4
    clear h4 hE
    refine (H4.out _ hA2).mono ?_
    rintro e w2 ⟨rfl, hb3⟩
    have hb4 := hb2.trans (hb3.mono hb2.size)
    have hA4 := hA.keep hb4
    clear hb3 hb2 H4
    go_wp2_with fail
    refine (H5.out _ hA4).mono ?_
    rintro e w3 ⟨rfl, hb5⟩
    have hbz := hb4.trans (hb5.mono hb4.size)
    clear hb5
    go_wp2_with fail
    go_ret
    exact ⟨rfl, by repeat' (first | (with_reducible exact hbz) | (with_reducible refine below_drewN ?_ _) | (with_reducible refine Below.alloc ?_ ?_ _) | (with_reducible refine Below.setCell ?_ ?_ _) | go_size)⟩
theorem walk (o : Od) (n : Nat) (m : Int) (w : World) (hA : Asked w) (_ : o.ints) (hn : n < 256) (_ : (Lit.int .i64 m).wf = true) : ok o w n m := by
  rcases hy : o.may with _ | _
  · exact walk_not o w n m hA hy
  · obtain ⟨k, r, rfl, hr⟩ : ∃ k r, n = 5 * k + r ∧ r < 5 := ⟨n / 5, n % 5, by omega, by omega⟩
    match r, hr with
    | 0, _ => exact walk_0 o w k m hA hy
    | 1, _ => exact walk_1 o w k m hA hy
    | 2, _ => exact walk_2 o w k m hA hy
    | 3, _ => exact walk_3 o w k m hA hy
    | 4, _ => exact walk_4 o w k m hA hy
end Go.Proofs.YtncbjekmkihilaaDoor.ordersFieldW
