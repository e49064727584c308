/-
  Encode of package orders: the marks of its fields, one behind the other, in a loop.
-/
import Derived.Test.YtncbjekmkihilaaDoorORef
namespace Go.Proofs.YtncbjekmkihilaaDoor
open Go.RowKit Go.Sort
theorem fields_ix0 (a b c d f : Int) (X : World) : (Instr.index 41 (.agg #[.int .i64 a, .int .i64 b, .int .i64 c, .int .i64 d, .int .i64 f]) (.int .i64 0)).run Tryd.prog X = .ok (.int .i64 a) X := by kernel_rfl
theorem fields_ix1 (a b c d f : Int) (X : World) : (Instr.index 41 (.agg #[.int .i64 a, .int .i64 b, .int .i64 c, .int .i64 d, .int .i64 f]) (.int .i64 1)).run Tryd.prog X = .ok (.int .i64 b) X := by kernel_rfl
theorem fields_ix2 (a b c d f : Int) (X : World) : (Instr.index 41 (.agg #[.int .i64 a, .int .i64 b, .int .i64 c, .int .i64 d, .int .i64 f]) (.int .i64 2)).run Tryd.prog X = .ok (.int .i64 c) X := by kernel_rfl
theorem fields_ix3 (a b c d f : Int) (X : World) : (Instr.index 41 (.agg #[.int .i64 a, .int .i64 b, .int .i64 c, .int .i64 d, .int .i64 f]) (.int .i64 3)).run Tryd.prog X = .ok (.int .i64 d) X := by kernel_rfl
theorem fields_ix4 (a b c d f : Int) (X : World) : (Instr.index 41 (.agg #[.int .i64 a, .int .i64 b, .int .i64 c, .int .i64 d, .int .i64 f]) (.int .i64 4)).run Tryd.prog X = .ok (.int .i64 f) X := by kernel_rfl
theorem enc_grow {o : Od} {sa sb sc sd se : ByteArray} (ha : sa = ⟨(mark o.id).toArray⟩) (hb : sb = ⟨(mark o.st).toArray⟩) (hc : sc = ⟨(mark o.ex).toArray⟩) (hd : sd = ⟨(mark o.ki).toArray⟩) (he : se = ⟨(mark o.ar).toArray⟩) :
    ⟨#[]⟩ ++ sa ++ sb ++ sc ++ sd ++ se = (⟨o.enc.toArray⟩ : ByteArray) := by
  rw [← enc_name ha hb hc hd he]
  congr 4
set_option maxRecDepth 100000 in
set_option maxHeartbeats 4000000 in
theorem encode_any (o : Od) (w : World) (hA : Asked w) (hi : o.ints) : Calls Tryd.prog 9 #[o.v] w (NumPost o.encR w) := by
  have G := fun X hX => check_any o X hX
  have F := fun X => fieldsOf_any o X
  have HE := Lib.hid (show o.encR = if o.may then .tuple #[.string ⟨o.enc.toArray⟩, .int .i64 0] else .tuple #[.string ⟨#[]⟩, .int .i64 2] from rfl)
  have HR := Lib.hid (show o.err = if o.may then 0 else 2 from rfl)
  obtain ⟨⟨i0, i1⟩, ⟨i2, i3⟩, ⟨i4, i5⟩, ⟨i6, i7⟩, ⟨i8, i9⟩⟩ := Od.ints_at hi
  have p0 : ∀ X, Calls Tryd.prog 18 #[.int .i64 o.id] X (PutPost (mark o.id) X) := fun X => put_any o.id X i0 i1
  have p1 : ∀ X, Calls Tryd.prog 18 #[.int .i64 o.st] X (PutPost (mark o.st) X) := fun X => put_any o.st X i2 i3
  have p2 : ∀ X, Calls Tryd.prog 18 #[.int .i64 o.ex] X (PutPost (mark o.ex) X) := fun X => put_any o.ex X i4 i5
  have p3 : ∀ X, Calls Tryd.prog 18 #[.int .i64 o.ki] X (PutPost (mark o.ki) X) := fun X => put_any o.ki X i6 i7
  have p4 : ∀ X, Calls Tryd.prog 18 #[.int .i64 o.ar] X (PutPost (mark o.ar) X) := fun X => put_any o.ar X i8 i9
  obtain ⟨sa, ha, la⟩ := mark_name i0 i1
  obtain ⟨sb, hb, lb⟩ := mark_name i2 i3
  obtain ⟨sc, hc, lc⟩ := mark_name i4 i5
  obtain ⟨sd, hd, ld⟩ := mark_name i6 i7
  obtain ⟨se, he, le⟩ := mark_name i8 i9
  have HS := Lib.hid (enc_grow ha.out hb.out hc.out hd.out he.out)
  unfold PutPost at p0 p1 p2 p3 p4
  rw [← ha.out] at p0
  rw [← hb.out] at p1
  rw [← hc.out] at p2
  rw [← hd.out] at p3
  rw [← he.out] at p4
  rw [← HS.out] at HE
  generalize o.encR = er at *
  generalize o.err = ee at *
  generalize o.may = my at *
  clear hi HS ha hb hc hd he
  obtain ⟨a, b, c, d, f⟩ := o
  simp only [Od.v] at *
  have HG := Lib.hid G
  have HF := Lib.hid F
  have P0 := Lib.hid p0
  have P1 := Lib.hid p1
  have P2 := Lib.hid p2
  have P3 := Lib.hid p3
  have P4 := Lib.hid p4
  clear G F p0 p1 p2 p3 p4 i0 i1 i2 i3 i4 i5 i6 i7 i8 i9
  have hA' := hA.keep ((Below.refl _ _).alloc (Nat.le_refl _) (.cells #[.int .i64 a, .int .i64 b, .int .i64 c, .int .i64 d, .int .i64 f] 23))
  have hs0 : w.heap.size ≤ (w.alloc (.cells #[.int .i64 a, .int .i64 b, .int .i64 c, .int .i64 d, .int .i64 f] 23)).heap.size := by simp
  cases my
  · obtain rfl : ee = 2 := HR.out
    go_enter Tryd.func9, Tryd.ntmps9
    go_wp2_with fail
    refine (HG.out _ hA').mono ?_
    rintro e w1 ⟨rfl, hb1⟩
    have hb2 : Below w.heap.size w w1 := ((Below.refl _ _).alloc (Nat.le_refl _) _).trans (hb1.mono hs0)
    go_wp2_with fail
    go_ret2
    exact ⟨by rw [HE.out]; rfl, hb2⟩
  · obtain rfl : ee = 0 := HR.out
    go_enter Tryd.func9, Tryd.ntmps9
    go_wp2_with fail
    refine (HG.out _ hA').mono ?_
    rintro e w1 ⟨rfl, hb1⟩
    have hb2 : Below w.heap.size w w1 := ((Below.refl _ _).alloc (Nat.le_refl _) _).trans (hb1.mono hs0)
    have hz : w.heap.size < (w.alloc (.cells #[.int .i64 a, .int .i64 b, .int .i64 c, .int .i64 d, .int .i64 f] 23)).heap.size := by simp
    have k0 : w1.cell? ⟨w.heap.size, 0, none⟩ = some (.int .i64 a) := (hb1.cell (p := ⟨w.heap.size, 0, none⟩) hz).trans (by simp [go_sem])
    have k1 : w1.cell? ⟨w.heap.size, 1, none⟩ = some (.int .i64 b) := (hb1.cell (p := ⟨w.heap.size, 1, none⟩) hz).trans (by simp [go_sem])
    have k2 : w1.cell? ⟨w.heap.size, 2, none⟩ = some (.int .i64 c) := (hb1.cell (p := ⟨w.heap.size, 2, none⟩) hz).trans (by simp [go_sem])
    have k3 : w1.cell? ⟨w.heap.size, 3, none⟩ = some (.int .i64 d) := (hb1.cell (p := ⟨w.heap.size, 3, none⟩) hz).trans (by simp [go_sem])
    have k4 : w1.cell? ⟨w.heap.size, 4, none⟩ = some (.int .i64 f) := (hb1.cell (p := ⟨w.heap.size, 4, none⟩) hz).trans (by simp [go_sem])
    clear hb1 hA' hA
    go_wp2_with fail
    refine (HF.out _).mono ?_
    rintro e w2 ⟨rfl, hb3⟩
    have hbz := hb2.trans (hb3.mono hb2.size)
    clear hb2 hb3 HG HF k0 k1 k2 k3 k4
    go_wp2_with fail
    refine wp_loop_rounds 6 ?_
    have ix0 := fields_ix0 a b c d f
    rw [rounds_succ]
    go_wp2_with fail
    refine (P0.out _).mono ?_
    rintro e v0 ⟨rfl, hq0⟩
    have hbz := hbz.trans (hq0.mono hbz.size)
    clear hq0 ix0 P0
    go_wp2_with fail
    have ix1 := fields_ix1 a b c d f
    rw [rounds_succ]
    go_wp2_with fail
    refine (P1.out _).mono ?_
    rintro e v1 ⟨rfl, hq1⟩
    have hbz := hbz.trans (hq1.mono hbz.size)
    clear hq1 ix1 P1
    go_wp2_with fail
    have ix2 := fields_ix2 a b c d f
    rw [rounds_succ]
    go_wp2_with fail
    refine (P2.out _).mono ?_
    rintro e v2 ⟨rfl, hq2⟩
    have hbz := hbz.trans (hq2.mono hbz.size)
    clear hq2 ix2 P2
    go_wp2_with fail
    have ix3 := fields_ix3 a b c d f
    rw [rounds_succ]
    go_wp2_with fail
    refine (P3.out _).mono ?_
    rintro e v3 ⟨rfl, hq3⟩
    have hbz := hbz.trans (hq3.mono hbz.size)
    clear hq3 ix3 P3
    go_wp2_with fail
    have ix4 := fields_ix4 a b c d f
    rw [rounds_succ]
    go_wp2_with fail
    refine (P4.out _).mono ?_
    rintro e v4 ⟨rfl, hq4⟩
    have hbz := hbz.trans (hq4.mono hbz.size)
    clear hq4 ix4 P4
    go_wp2_with fail
    rw [rounds_succ]
    go_wp2_with fail
    go_ret2
    exact ⟨by rw [HE.out]; rfl, by repeat' (first | (with_reducible exact hbz) | (with_reducible refine below_drewN ?_ _) | (with_reducible refine Below.alloc ?_ ?_ _) | (with_reducible refine Below.setCell ?_ ?_ _) | go_size)⟩
end Go.Proofs.YtncbjekmkihilaaDoor
