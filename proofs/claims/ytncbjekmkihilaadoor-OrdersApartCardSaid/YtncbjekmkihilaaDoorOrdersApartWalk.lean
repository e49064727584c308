/-
  The walk of the law OrdersApart: it returns true and writes nothing that was there.
-/
import Derived.Test.YtncbjekmkihilaaDoorOWorks
import Derived.Lib.Strings
namespace Go.Proofs.YtncbjekmkihilaaDoor.ordersApartW
open Go.RowKit Go.Sort
def okA (o q : Od) (x y : ByteArray) (w : World) : Prop := Calls Tryd.prog 6 #[o.v, q.v, .agg #[.string x, .string y]] w fun e w' => e = .returned (.bool true) ∧ Below w.heap.size w w'
theorem toList_inj {a b : ByteArray} (h : a.toList = b.toList) : a = b := by
  rw [Lib.toList_data, Lib.toList_data] at h
  exact ByteArray.ext (Array.toList_inj.1 h)
/-- What Encode answers, as the walks take it. -/
def Enc (o : Od) (S : ByteArray) (e : Int) : Prop := ∀ X, Asked X → Calls Tryd.prog 9 #[o.v] X (NumPost (.tuple #[.string S, .int .i64 e]) X)
set_option maxRecDepth 100000 in
set_option maxHeartbeats 4000000 in
theorem walk_e (o q : Od) (x y : ByteArray) (S T : ByteArray) (w : World) (hA : Asked w) (h1 : Enc o S 2) (h2 : Enc q T 0)   : okA o q x y w := by
  unfold okA
  unfold Enc at h1 h2
  obtain ⟨a, b, c, d, r⟩ := o
  obtain ⟨g, h, i, j, k⟩ := q
  simp only [Od.v] at h1 h2 ⊢
  have H1 := Lib.hid h1
  have H2 := Lib.hid h2
  have H5 := Lib.hid works_any
  clear h1 h2
  go_enter Tryd.func6, Tryd.ntmps6
  go_wp2_with fail
  go_quiet (fail)
  go_wp2_with fail
  refine (H1.out _ (hA.keep (by repeat' (first | (with_reducible exact Below.refl _ _) | (with_reducible refine below_drewN ?_ _) | (with_reducible refine Below.drew ?_) | (with_reducible refine Below.alloc ?_ ?_ _) | (with_reducible refine Below.setCell ?_ ?_ _) | go_size)))).mono ?_
  rintro e1 w1 ⟨rfl, hb⟩
  have O1 : Box5 w1 w.heap.size (.int .i64 a) (.int .i64 b) (.int .i64 c) (.int .i64 d) (.int .i64 r) := Box5.later ⟨by go_simp, by go_simp, by go_simp, by go_simp, by go_simp, fun i => by go_simp, by go_size⟩ hb
  have Q1 : Box5 w1 (w.heap.size + 1) (.int .i64 g) (.int .i64 h) (.int .i64 i) (.int .i64 j) (.int .i64 k) := Box5.later ⟨by go_simp, by go_simp, by go_simp, by go_simp, by go_simp, fun i => by go_simp, by go_size⟩ hb
  have hb1 : Below w.heap.size w w1 := Below.trans (by repeat' (first | (with_reducible exact Below.refl _ _) | (with_reducible refine below_drewN ?_ _) | (with_reducible refine Below.drew ?_) | (with_reducible refine Below.alloc ?_ ?_ _) | (with_reducible refine Below.setCell ?_ ?_ _) | go_size)) (hb.mono (by go_size))
  have hA1 := hA.keep hb1
  clear hb H1
  obtain ⟨y0, y1, y2, y3, y4, yf, ys⟩ := id Q1
  go_wp2_with fail
  refine (H2.out _ hA1).mono ?_
  rintro e2 w2 ⟨rfl, hb⟩
  have hb2 := hb1.trans (hb.mono hb1.size)
  have hA2 := hA.keep hb2
  clear y0 y1 y2 y3 y4 yf ys
  obtain ⟨x0, x1, x2, x3, x4, xf, xs⟩ := O1.later hb
  obtain ⟨y0, y1, y2, y3, y4, yf, ys⟩ := Q1.later hb
  clear hb hb1 hA1 H2 O1 Q1
  go_wp2_with fail
  refine (H5.out _ hA2).mono ?_
  rintro e3 w3 ⟨rfl, hb⟩
  have hbz := hb2.trans (hb.mono hb2.size)
  clear hb
  go_wp2_with fail
  go_ret
  exact ⟨rfl, by repeat' (first | (with_reducible exact hbz) | (with_reducible exact Below.refl _ _) | (with_reducible refine below_drewN ?_ _) | (with_reducible refine Below.drew ?_) | (with_reducible refine Below.alloc ?_ ?_ _) | (with_reducible refine Below.setCell ?_ ?_ _) | go_size)⟩
set_option maxRecDepth 100000 in
set_option maxHeartbeats 4000000 in
theorem walk_e2 (o q : Od) (x y : ByteArray) (S T : ByteArray) (w : World) (hA : Asked w) (h1 : Enc o S 2) (h2 : Enc q T 2)   : okA o q x y w := by
  unfold okA
  unfold Enc at h1 h2
  obtain ⟨a, b, c, d, r⟩ := o
  obtain ⟨g, h, i, j, k⟩ := q
  simp only [Od.v] at h1 h2 ⊢
  have H1 := Lib.hid h1
  have H2 := Lib.hid h2
  have H5 := Lib.hid works_any
  clear h1 h2
  go_enter Tryd.func6, Tryd.ntmps6
  go_wp2_with fail
  go_quiet (fail)
  go_wp2_with fail
  refine (H1.out _ (hA.keep (by repeat' (first | (with_reducible exact Below.refl _ _) | (with_reducible refine below_drewN ?_ _) | (with_reducible refine Below.drew ?_) | (with_reducible refine Below.alloc ?_ ?_ _) | (with_reducible refine Below.setCell ?_ ?_ _) | go_size)))).mono ?_
  rintro e1 w1 ⟨rfl, hb⟩
  have O1 : Box5 w1 w.heap.size (.int .i64 a) (.int .i64 b) (.int .i64 c) (.int .i64 d) (.int .i64 r) := Box5.later ⟨by go_simp, by go_simp, by go_simp, by go_simp, by go_simp, fun i => by go_simp, by go_size⟩ hb
  have Q1 : Box5 w1 (w.heap.size + 1) (.int .i64 g) (.int .i64 h) (.int .i64 i) (.int .i64 j) (.int .i64 k) := Box5.later ⟨by go_simp, by go_simp, by go_simp, by go_simp, by go_simp, fun i => by go_simp, by go_size⟩ hb
  have hb1 : Below w.heap.size w w1 := Below.trans (by repeat' (first | (with_reducible exact Below.refl _ _) | (with_reducible refine below_drewN ?_ _) | (with_reducible refine Below.drew ?_) | (with_reducible refine Below.alloc ?_ ?_ _) | (with_reducible refine Below.setCell ?_ ?_ _) | go_size)) (hb.mono (by go_size))
  have hA1 := hA.keep hb1
  clear hb H1
  obtain ⟨y0, y1, y2, y3, y4, yf, ys⟩ := id Q1
  go_wp2_with fail
  refine (H2.out _ hA1).mono ?_
  rintro e2 w2 ⟨rfl, hb⟩
  have hb2 := hb1.trans (hb.mono hb1.size)
  have hA2 := hA.keep hb2
  clear y0 y1 y2 y3 y4 yf ys
  obtain ⟨x0, x1, x2, x3, x4, xf, xs⟩ := O1.later hb
  obtain ⟨y0, y1, y2, y3, y4, yf, ys⟩ := Q1.later hb
  clear hb hb1 hA1 H2 O1 Q1
  go_wp2_with fail
  refine (H5.out _ hA2).mono ?_
  rintro e3 w3 ⟨rfl, hb⟩
  have hbz := hb2.trans (hb.mono hb2.size)
  clear hb
  go_wp2_with fail
  go_ret
  exact ⟨rfl, by repeat' (first | (with_reducible exact hbz) | (with_reducible exact Below.refl _ _) | (with_reducible refine below_drewN ?_ _) | (with_reducible refine Below.drew ?_) | (with_reducible refine Below.alloc ?_ ?_ _) | (with_reducible refine Below.setCell ?_ ?_ _) | go_size)⟩
set_option maxRecDepth 100000 in
set_option maxHeartbeats 4000000 in
theorem walk_f (o q : Od) (x y : ByteArray) (S T : ByteArray) (w : World) (hA : Asked w) (h1 : Enc o S 0) (h2 : Enc q T 2)   : okA o q x y w := by
  unfold okA
  unfold Enc at h1 h2
  obtain ⟨a, b, c, d, r⟩ := o
  obtain ⟨g, h, i, j, k⟩ := q
  simp only [Od.v] at h1 h2 ⊢
  have H1 := Lib.hid h1
  have H2 := Lib.hid h2
  have H5 := Lib.hid works_any
  clear h1 h2
  go_enter Tryd.func6, Tryd.ntmps6
  go_wp2_with fail
  go_quiet (fail)
  go_wp2_with fail
  refine (H1.out _ (hA.keep (by repeat' (first | (with_reducible exact Below.refl _ _) | (with_reducible refine below_drewN ?_ _) | (with_reducible refine Below.drew ?_) | (with_reducible refine Below.alloc ?_ ?_ _) | (with_reducible refine Below.setCell ?_ ?_ _) | go_size)))).mono ?_
  rintro e1 w1 ⟨rfl, hb⟩
  have O1 : Box5 w1 w.heap.size (.int .i64 a) (.int .i64 b) (.int .i64 c) (.int .i64 d) (.int .i64 r) := Box5.later ⟨by go_simp, by go_simp, by go_simp, by go_simp, by go_simp, fun i => by go_simp, by go_size⟩ hb
  have Q1 : Box5 w1 (w.heap.size + 1) (.int .i64 g) (.int .i64 h) (.int .i64 i) (.int .i64 j) (.int .i64 k) := Box5.later ⟨by go_simp, by go_simp, by go_simp, by go_simp, by go_simp, fun i => by go_simp, by go_size⟩ hb
  have hb1 : Below w.heap.size w w1 := Below.trans (by repeat' (first | (with_reducible exact Below.refl _ _) | (with_reducible refine below_drewN ?_ _) | (with_reducible refine Below.drew ?_) | (with_reducible refine Below.alloc ?_ ?_ _) | (with_reducible refine Below.setCell ?_ ?_ _) | go_size)) (hb.mono (by go_size))
  have hA1 := hA.keep hb1
  clear hb H1
  obtain ⟨y0, y1, y2, y3, y4, yf, ys⟩ := id Q1
  go_wp2_with fail
  refine (H2.out _ hA1).mono ?_
  rintro e2 w2 ⟨rfl, hb⟩
  have hb2 := hb1.trans (hb.mono hb1.size)
  have hA2 := hA.keep hb2
  clear y0 y1 y2 y3 y4 yf ys
  obtain ⟨x0, x1, x2, x3, x4, xf, xs⟩ := O1.later hb
  obtain ⟨y0, y1, y2, y3, y4, yf, ys⟩ := Q1.later hb
  clear hb hb1 hA1 H2 O1 Q1
  go_wp2_with fail
  refine (H5.out _ hA2).mono ?_
  rintro e3 w3 ⟨rfl, hb⟩
  have hbz := hb2.trans (hb.mono hb2.size)
  clear hb
  go_wp2_with fail
  go_ret
  exact ⟨rfl, by repeat' (first | (with_reducible exact hbz) | (with_reducible exact Below.refl _ _) | (with_reducible refine below_drewN ?_ _) | (with_reducible refine Below.drew ?_) | (with_reducible refine Below.alloc ?_ ?_ _) | (with_reducible refine Below.setCell ?_ ?_ _) | go_size)⟩
set_option maxRecDepth 100000 in
set_option maxHeartbeats 4000000 in
theorem walk_x (o q : Od) (x y : ByteArray) (S T : ByteArray) (w : World) (hA : Asked w) (h1 : Enc o S 0) (h2 : Enc q T 0)  (hn : 1000 < x.size) : okA o q x y w := by
  have t1 : decide (1000 < x.size) = true := decide_eq_true hn
  have t2 : decide ((1000 : Int) < (x.size : Int)) = true := decide_eq_true (by omega)
  unfold okA
  unfold Enc at h1 h2
  obtain ⟨a, b, c, d, r⟩ := o
  obtain ⟨g, h, i, j, k⟩ := q
  simp only [Od.v] at h1 h2 ⊢
  have H1 := Lib.hid h1
  have H2 := Lib.hid h2
  have H5 := Lib.hid works_any
  clear h1 h2
  go_enter Tryd.func6, Tryd.ntmps6
  go_wp2_with fail
  go_quiet (fail)
  go_wp2_with fail
  refine (H1.out _ (hA.keep (by repeat' (first | (with_reducible exact Below.refl _ _) | (with_reducible refine below_drewN ?_ _) | (with_reducible refine Below.drew ?_) | (with_reducible refine Below.alloc ?_ ?_ _) | (with_reducible refine Below.setCell ?_ ?_ _) | go_size)))).mono ?_
  rintro e1 w1 ⟨rfl, hb⟩
  have O1 : Box5 w1 w.heap.size (.int .i64 a) (.int .i64 b) (.int .i64 c) (.int .i64 d) (.int .i64 r) := Box5.later ⟨by go_simp, by go_simp, by go_simp, by go_simp, by go_simp, fun i => by go_simp, by go_size⟩ hb
  have Q1 : Box5 w1 (w.heap.size + 1) (.int .i64 g) (.int .i64 h) (.int .i64 i) (.int .i64 j) (.int .i64 k) := Box5.later ⟨by go_simp, by go_simp, by go_simp, by go_simp, by go_simp, fun i => by go_simp, by go_size⟩ hb
  have hb1 : Below w.heap.size w w1 := Below.trans (by repeat' (first | (with_reducible exact Below.refl _ _) | (with_reducible refine below_drewN ?_ _) | (with_reducible refine Below.drew ?_) | (with_reducible refine Below.alloc ?_ ?_ _) | (with_reducible refine Below.setCell ?_ ?_ _) | go_size)) (hb.mono (by go_size))
  have hA1 := hA.keep hb1
  clear hb H1
  obtain ⟨y0, y1, y2, y3, y4, yf, ys⟩ := id Q1
  go_wp2_with fail
  refine (H2.out _ hA1).mono ?_
  rintro e2 w2 ⟨rfl, hb⟩
  have hb2 := hb1.trans (hb.mono hb1.size)
  have hA2 := hA.keep hb2
  clear y0 y1 y2 y3 y4 yf ys
  obtain ⟨x0, x1, x2, x3, x4, xf, xs⟩ := O1.later hb
  obtain ⟨y0, y1, y2, y3, y4, yf, ys⟩ := Q1.later hb
  clear hb hb1 hA1 H2 O1 Q1
  go_wp2_with fail
  refine (H5.out _ hA2).mono ?_
  rintro e3 w3 ⟨rfl, hb⟩
  have hbz := hb2.trans (hb.mono hb2.size)
  clear hb
  go_wp2_with fail
  go_ret
  exact ⟨rfl, by repeat' (first | (with_reducible exact hbz) | (with_reducible exact Below.refl _ _) | (with_reducible refine below_drewN ?_ _) | (with_reducible refine Below.drew ?_) | (with_reducible refine Below.alloc ?_ ?_ _) | (with_reducible refine Below.setCell ?_ ?_ _) | go_size)⟩
set_option maxRecDepth 100000 in
set_option maxHeartbeats 4000000 in
theorem walk_y (o q : Od) (x y : ByteArray) (S T : ByteArray) (w : World) (hA : Asked w) (h1 : Enc o S 0) (h2 : Enc q T 0)  (hm : x.size ≤ 1000) (hn : 1000 < y.size) : okA o q x y w := by
  have t1 : decide (1000 < y.size) = true := decide_eq_true hn
  have t2 : decide ((1000 : Int) < (y.size : Int)) = true := decide_eq_true (by omega)
  have t3 : decide (1000 < x.size) = false := decide_eq_false (by omega)
  have t4 : decide ((1000 : Int) < (x.size : Int)) = false := decide_eq_false (by omega)
  unfold okA
  unfold Enc at h1 h2
  obtain ⟨a, b, c, d, r⟩ := o
  obtain ⟨g, h, i, j, k⟩ := q
  simp only [Od.v] at h1 h2 ⊢
  have H1 := Lib.hid h1
  have H2 := Lib.hid h2
  have H5 := Lib.hid works_any
  clear h1 h2
  go_enter Tryd.func6, Tryd.ntmps6
  go_wp2_with fail
  go_quiet (fail)
  go_wp2_with fail
  refine (H1.out _ (hA.keep (by repeat' (first | (with_reducible exact Below.refl _ _) | (with_reducible refine below_drewN ?_ _) | (with_reducible refine Below.drew ?_) | (with_reducible refine Below.alloc ?_ ?_ _) | (with_reducible refine Below.setCell ?_ ?_ _) | go_size)))).mono ?_
  rintro e1 w1 ⟨rfl, hb⟩
  have O1 : Box5 w1 w.heap.size (.int .i64 a) (.int .i64 b) (.int .i64 c) (.int .i64 d) (.int .i64 r) := Box5.later ⟨by go_simp, by go_simp, by go_simp, by go_simp, by go_simp, fun i => by go_simp, by go_size⟩ hb
  have Q1 : Box5 w1 (w.heap.size + 1) (.int .i64 g) (.int .i64 h) (.int .i64 i) (.int .i64 j) (.int .i64 k) := Box5.later ⟨by go_simp, by go_simp, by go_simp, by go_simp, by go_simp, fun i => by go_simp, by go_size⟩ hb
  have hb1 : Below w.heap.size w w1 := Below.trans (by repeat' (first | (with_reducible exact Below.refl _ _) | (with_reducible refine below_drewN ?_ _) | (with_reducible refine Below.drew ?_) | (with_reducible refine Below.alloc ?_ ?_ _) | (with_reducible refine Below.setCell ?_ ?_ _) | go_size)) (hb.mono (by go_size))
  have hA1 := hA.keep hb1
  clear hb H1
  obtain ⟨y0, y1, y2, y3, y4, yf, ys⟩ := id Q1
  go_wp2_with fail
  refine (H2.out _ hA1).mono ?_
  rintro e2 w2 ⟨rfl, hb⟩
  have hb2 := hb1.trans (hb.mono hb1.size)
  have hA2 := hA.keep hb2
  clear y0 y1 y2 y3 y4 yf ys
  obtain ⟨x0, x1, x2, x3, x4, xf, xs⟩ := O1.later hb
  obtain ⟨y0, y1, y2, y3, y4, yf, ys⟩ := Q1.later hb
  clear hb hb1 hA1 H2 O1 Q1
  go_wp2_with fail
  refine (H5.out _ hA2).mono ?_
  rintro e3 w3 ⟨rfl, hb⟩
  have hbz := hb2.trans (hb.mono hb2.size)
  clear hb
  go_wp2_with fail
  go_ret
  exact ⟨rfl, by repeat' (first | (with_reducible exact hbz) | (with_reducible exact Below.refl _ _) | (with_reducible refine below_drewN ?_ _) | (with_reducible refine Below.drew ?_) | (with_reducible refine Below.alloc ?_ ?_ _) | (with_reducible refine Below.setCell ?_ ?_ _) | go_size)⟩
set_option maxRecDepth 100000 in
set_option maxHeartbeats 4000000 in
theorem walk_n0 (a b c d r g h i j k : Int) (x y : ByteArray) (S T : ByteArray) (w : World) (hA : Asked w) (h1 : Enc ⟨a, b, c, d, r⟩ S 0) (h2 : Enc ⟨g, h, i, j, k⟩ T 0) (hm : x.size ≤ 1000) (hn : y.size ≤ 1000) (lS : S.size ≤ 50) (lT : T.size ≤ 50) (ne : ¬ a = g) (nS : ¬ S = T) (nx : ¬ S ++ x = T ++ y) : okA ⟨a, b, c, d, r⟩ ⟨g, h, i, j, k⟩ x y w := by
  have t3 : decide (1000 < x.size) = false := decide_eq_false (by omega)
  have t4 : decide ((1000 : Int) < (x.size : Int)) = false := decide_eq_false (by omega)
  have t5 : decide (1000 < y.size) = false := decide_eq_false (by omega)
  have t6 : decide ((1000 : Int) < (y.size : Int)) = false := decide_eq_false (by omega)
  have n1 : (a == g) = false := by simpa using ne
  have n3 : (S.toList == T.toList) = false := by rw [beq_eq_false_iff_ne]; exact fun e => nS (toList_inj e)
  have n4 : ((S ++ x).toList == (T ++ y).toList) = false := by rw [beq_eq_false_iff_ne]; exact fun e => nx (toList_inj e)
  unfold okA
  unfold Enc at h1 h2
  simp only [Od.v] at h1 h2 ⊢
  have H1 := Lib.hid h1
  have H2 := Lib.hid h2
  have H5 := Lib.hid works_any
  clear h1 h2
  go_enter Tryd.func6, Tryd.ntmps6
  go_wp2_with fail
  go_quiet (fail)
  go_wp2_with fail
  refine (H1.out _ (hA.keep (by repeat' (first | (with_reducible exact Below.refl _ _) | (with_reducible refine below_drewN ?_ _) | (with_reducible refine Below.drew ?_) | (with_reducible refine Below.alloc ?_ ?_ _) | (with_reducible refine Below.setCell ?_ ?_ _) | go_size)))).mono ?_
  rintro e1 w1 ⟨rfl, hb⟩
  have O1 : Box5 w1 w.heap.size (.int .i64 a) (.int .i64 b) (.int .i64 c) (.int .i64 d) (.int .i64 r) := Box5.later ⟨by go_simp, by go_simp, by go_simp, by go_simp, by go_simp, fun i => by go_simp, by go_size⟩ hb
  have Q1 : Box5 w1 (w.heap.size + 1) (.int .i64 g) (.int .i64 h) (.int .i64 i) (.int .i64 j) (.int .i64 k) := Box5.later ⟨by go_simp, by go_simp, by go_simp, by go_simp, by go_simp, fun i => by go_simp, by go_size⟩ hb
  have hb1 : Below w.heap.size w w1 := Below.trans (by repeat' (first | (with_reducible exact Below.refl _ _) | (with_reducible refine below_drewN ?_ _) | (with_reducible refine Below.drew ?_) | (with_reducible refine Below.alloc ?_ ?_ _) | (with_reducible refine Below.setCell ?_ ?_ _) | go_size)) (hb.mono (by go_size))
  have hA1 := hA.keep hb1
  clear hb H1
  obtain ⟨y0, y1, y2, y3, y4, yf, ys⟩ := id Q1
  go_wp2_with fail
  refine (H2.out _ hA1).mono ?_
  rintro e2 w2 ⟨rfl, hb⟩
  have hb2 := hb1.trans (hb.mono hb1.size)
  have hA2 := hA.keep hb2
  clear y0 y1 y2 y3 y4 yf ys
  obtain ⟨x0, x1, x2, x3, x4, xf, xs⟩ := O1.later hb
  obtain ⟨y0, y1, y2, y3, y4, yf, ys⟩ := Q1.later hb
  clear hb hb1 hA1 H2 O1 Q1
  go_wp2_with fail
  refine (H5.out _ hA2).mono ?_
  rintro e3 w3 ⟨rfl, hb⟩
  have hbz := hb2.trans (hb.mono hb2.size)
  clear hb
  go_wp2_with fail
  go_ret
  exact ⟨rfl, by repeat' (first | (with_reducible exact hbz) | (with_reducible exact Below.refl _ _) | (with_reducible refine below_drewN ?_ _) | (with_reducible refine Below.drew ?_) | (with_reducible refine Below.alloc ?_ ?_ _) | (with_reducible refine Below.setCell ?_ ?_ _) | go_size)⟩
set_option maxRecDepth 100000 in
set_option maxHeartbeats 4000000 in
theorem walk_n1 (a b c d r h i j k : Int) (x y : ByteArray) (S T : ByteArray) (w : World) (hA : Asked w) (h1 : Enc ⟨a, b, c, d, r⟩ S 0) (h2 : Enc ⟨a, h, i, j, k⟩ T 0) (hm : x.size ≤ 1000) (hn : y.size ≤ 1000) (lS : S.size ≤ 50) (lT : T.size ≤ 50) (ne : ¬ b = h) (nS : ¬ S = T) (nx : ¬ S ++ x = T ++ y) : okA ⟨a, b, c, d, r⟩ ⟨a, h, i, j, k⟩ x y w := by
  have t3 : decide (1000 < x.size) = false := decide_eq_false (by omega)
  have t4 : decide ((1000 : Int) < (x.size : Int)) = false := decide_eq_false (by omega)
  have t5 : decide (1000 < y.size) = false := decide_eq_false (by omega)
  have t6 : decide ((1000 : Int) < (y.size : Int)) = false := decide_eq_false (by omega)
  have n1 : (b == h) = false := by simpa using ne
  have n3 : (S.toList == T.toList) = false := by rw [beq_eq_false_iff_ne]; exact fun e => nS (toList_inj e)
  have n4 : ((S ++ x).toList == (T ++ y).toList) = false := by rw [beq_eq_false_iff_ne]; exact fun e => nx (toList_inj e)
  unfold okA
  unfold Enc at h1 h2
  simp only [Od.v] at h1 h2 ⊢
  have H1 := Lib.hid h1
  have H2 := Lib.hid h2
  have H5 := Lib.hid works_any
  clear h1 h2
  go_enter Tryd.func6, Tryd.ntmps6
  go_wp2_with fail
  go_quiet (fail)
  go_wp2_with fail
  refine (H1.out _ (hA.keep (by repeat' (first | (with_reducible exact Below.refl _ _) | (with_reducible refine below_drewN ?_ _) | (with_reducible refine Below.drew ?_) | (with_reducible refine Below.alloc ?_ ?_ _) | (with_reducible refine Below.setCell ?_ ?_ _) | go_size)))).mono ?_
  rintro e1 w1 ⟨rfl, hb⟩
  have O1 : Box5 w1 w.heap.size (.int .i64 a) (.int .i64 b) (.int .i64 c) (.int .i64 d) (.int .i64 r) := Box5.later ⟨by go_simp, by go_simp, by go_simp, by go_simp, by go_simp, fun i => by go_simp, by go_size⟩ hb
  have Q1 : Box5 w1 (w.heap.size + 1) (.int .i64 a) (.int .i64 h) (.int .i64 i) (.int .i64 j) (.int .i64 k) := Box5.later ⟨by go_simp, by go_simp, by go_simp, by go_simp, by go_simp, fun i => by go_simp, by go_size⟩ hb
  have hb1 : Below w.heap.size w w1 := Below.trans (by repeat' (first | (with_reducible exact Below.refl _ _) | (with_reducible refine below_drewN ?_ _) | (with_reducible refine Below.drew ?_) | (with_reducible refine Below.alloc ?_ ?_ _) | (with_reducible refine Below.setCell ?_ ?_ _) | go_size)) (hb.mono (by go_size))
  have hA1 := hA.keep hb1
  clear hb H1
  obtain ⟨y0, y1, y2, y3, y4, yf, ys⟩ := id Q1
  go_wp2_with fail
  refine (H2.out _ hA1).mono ?_
  rintro e2 w2 ⟨rfl, hb⟩
  have hb2 := hb1.trans (hb.mono hb1.size)
  have hA2 := hA.keep hb2
  clear y0 y1 y2 y3 y4 yf ys
  obtain ⟨x0, x1, x2, x3, x4, xf, xs⟩ := O1.later hb
  obtain ⟨y0, y1, y2, y3, y4, yf, ys⟩ := Q1.later hb
  clear hb hb1 hA1 H2 O1 Q1
  go_wp2_with fail
  refine (H5.out _ hA2).mono ?_
  rintro e3 w3 ⟨rfl, hb⟩
  have hbz := hb2.trans (hb.mono hb2.size)
  clear hb
  go_wp2_with fail
  go_ret
  exact ⟨rfl, by repeat' (first | (with_reducible exact hbz) | (with_reducible exact Below.refl _ _) | (with_reducible refine below_drewN ?_ _) | (with_reducible refine Below.drew ?_) | (with_reducible refine Below.alloc ?_ ?_ _) | (with_reducible refine Below.setCell ?_ ?_ _) | go_size)⟩
set_option maxRecDepth 100000 in
set_option maxHeartbeats 4000000 in
theorem walk_n2 (a b c d r i j k : Int) (x y : ByteArray) (S T : ByteArray) (w : World) (hA : Asked w) (h1 : Enc ⟨a, b, c, d, r⟩ S 0) (h2 : Enc ⟨a, b, i, j, k⟩ T 0) (hm : x.size ≤ 1000) (hn : y.size ≤ 1000) (lS : S.size ≤ 50) (lT : T.size ≤ 50) (ne : ¬ c = i) (nS : ¬ S = T) (nx : ¬ S ++ x = T ++ y) : okA ⟨a, b, c, d, r⟩ ⟨a, b, i, j, k⟩ x y w := by
  have t3 : decide (1000 < x.size) = false := decide_eq_false (by omega)
  have t4 : decide ((1000 : Int) < (x.size : Int)) = false := decide_eq_false (by omega)
  have t5 : decide (1000 < y.size) = false := decide_eq_false (by omega)
  have t6 : decide ((1000 : Int) < (y.size : Int)) = false := decide_eq_false (by omega)
  have n1 : (c == i) = false := by simpa using ne
  have n3 : (S.toList == T.toList) = false := by rw [beq_eq_false_iff_ne]; exact fun e => nS (toList_inj e)
  have n4 : ((S ++ x).toList == (T ++ y).toList) = false := by rw [beq_eq_false_iff_ne]; exact fun e => nx (toList_inj e)
  unfold okA
  unfold Enc at h1 h2
  simp only [Od.v] at h1 h2 ⊢
  have H1 := Lib.hid h1
  have H2 := Lib.hid h2
  have H5 := Lib.hid works_any
  clear h1 h2
  go_enter Tryd.func6, Tryd.ntmps6
  go_wp2_with fail
  go_quiet (fail)
  go_wp2_with fail
  refine (H1.out _ (hA.keep (by repeat' (first | (with_reducible exact Below.refl _ _) | (with_reducible refine below_drewN ?_ _) | (with_reducible refine Below.drew ?_) | (with_reducible refine Below.alloc ?_ ?_ _) | (with_reducible refine Below.setCell ?_ ?_ _) | go_size)))).mono ?_
  rintro e1 w1 ⟨rfl, hb⟩
  have O1 : Box5 w1 w.heap.size (.int .i64 a) (.int .i64 b) (.int .i64 c) (.int .i64 d) (.int .i64 r) := Box5.later ⟨by go_simp, by go_simp, by go_simp, by go_simp, by go_simp, fun i => by go_simp, by go_size⟩ hb
  have Q1 : Box5 w1 (w.heap.size + 1) (.int .i64 a) (.int .i64 b) (.int .i64 i) (.int .i64 j) (.int .i64 k) := Box5.later ⟨by go_simp, by go_simp, by go_simp, by go_simp, by go_simp, fun i => by go_simp, by go_size⟩ hb
  have hb1 : Below w.heap.size w w1 := Below.trans (by repeat' (first | (with_reducible exact Below.refl _ _) | (with_reducible refine below_drewN ?_ _) | (with_reducible refine Below.drew ?_) | (with_reducible refine Below.alloc ?_ ?_ _) | (with_reducible refine Below.setCell ?_ ?_ _) | go_size)) (hb.mono (by go_size))
  have hA1 := hA.keep hb1
  clear hb H1
  obtain ⟨y0, y1, y2, y3, y4, yf, ys⟩ := id Q1
  go_wp2_with fail
  refine (H2.out _ hA1).mono ?_
  rintro e2 w2 ⟨rfl, hb⟩
  have hb2 := hb1.trans (hb.mono hb1.size)
  have hA2 := hA.keep hb2
  clear y0 y1 y2 y3 y4 yf ys
  obtain ⟨x0, x1, x2, x3, x4, xf, xs⟩ := O1.later hb
  obtain ⟨y0, y1, y2, y3, y4, yf, ys⟩ := Q1.later hb
  clear hb hb1 hA1 H2 O1 Q1
  go_wp2_with fail
  refine (H5.out _ hA2).mono ?_
  rintro e3 w3 ⟨rfl, hb⟩
  have hbz := hb2.trans (hb.mono hb2.size)
  clear hb
  go_wp2_with fail
  go_ret
  exact ⟨rfl, by repeat' (first | (with_reducible exact hbz) | (with_reducible exact Below.refl _ _) | (with_reducible refine below_drewN ?_ _) | (with_reducible refine Below.drew ?_) | (with_reducible refine Below.alloc ?_ ?_ _) | (with_reducible refine Below.setCell ?_ ?_ _) | go_size)⟩
set_option maxRecDepth 100000 in
set_option maxHeartbeats 4000000 in
theorem walk_n3 (a b c d r j k : Int) (x y : ByteArray) (S T : ByteArray) (w : World) (hA : Asked w) (h1 : Enc ⟨a, b, c, d, r⟩ S 0) (h2 : Enc ⟨a, b, c, j, k⟩ T 0) (hm : x.size ≤ 1000) (hn : y.size ≤ 1000) (lS : S.size ≤ 50) (lT : T.size ≤ 50) (ne : ¬ d = j) (nS : ¬ S = T) (nx : ¬ S ++ x = T ++ y) : okA ⟨a, b, c, d, r⟩ ⟨a, b, c, j, k⟩ x y w := by
  have t3 : decide (1000 < x.size) = false := decide_eq_false (by omega)
  have t4 : decide ((1000 : Int) < (x.size : Int)) = false := decide_eq_false (by omega)
  have t5 : decide (1000 < y.size) = false := decide_eq_false (by omega)
  have t6 : decide ((1000 : Int) < (y.size : Int)) = false := decide_eq_false (by omega)
  have n1 : (d == j) = false := by simpa using ne
  have n3 : (S.toList == T.toList) = false := by rw [beq_eq_false_iff_ne]; exact fun e => nS (toList_inj e)
  have n4 : ((S ++ x).toList == (T ++ y).toList) = false := by rw [beq_eq_false_iff_ne]; exact fun e => nx (toList_inj e)
  unfold okA
  unfold Enc at h1 h2
  simp only [Od.v] at h1 h2 ⊢
  have H1 := Lib.hid h1
  have H2 := Lib.hid h2
  have H5 := Lib.hid works_any
  clear h1 h2
  go_enter Tryd.func6, Tryd.ntmps6
  go_wp2_with fail
  go_quiet (fail)
  go_wp2_with fail
  refine (H1.out _ (hA.keep (by repeat' (first | (with_reducible exact Below.refl _ _) | (with_reducible refine below_drewN ?_ _) | (with_reducible refine Below.drew ?_) | (with_reducible refine Below.alloc ?_ ?_ _) | (with_reducible refine Below.setCell ?_ ?_ _) | go_size)))).mono ?_
  rintro e1 w1 ⟨rfl, hb⟩
  have O1 : Box5 w1 w.heap.size (.int .i64 a) (.int .i64 b) (.int .i64 c) (.int .i64 d) (.int .i64 r) := Box5.later ⟨by go_simp, by go_simp, by go_simp, by go_simp, by go_simp, fun i => by go_simp, by go_size⟩ hb
  have Q1 : Box5 w1 (w.heap.size + 1) (.int .i64 a) (.int .i64 b) (.int .i64 c) (.int .i64 j) (.int .i64 k) := Box5.later ⟨by go_simp, by go_simp, by go_simp, by go_simp, by go_simp, fun i => by go_simp, by go_size⟩ hb
  have hb1 : Below w.heap.size w w1 := Below.trans (by repeat' (first | (with_reducible exact Below.refl _ _) | (with_reducible refine below_drewN ?_ _) | (with_reducible refine Below.drew ?_) | (with_reducible refine Below.alloc ?_ ?_ _) | (with_reducible refine Below.setCell ?_ ?_ _) | go_size)) (hb.mono (by go_size))
  have hA1 := hA.keep hb1
  clear hb H1
  obtain ⟨y0, y1, y2, y3, y4, yf, ys⟩ := id Q1
  go_wp2_with fail
  refine (H2.out _ hA1).mono ?_
  rintro e2 w2 ⟨rfl, hb⟩
  have hb2 := hb1.trans (hb.mono hb1.size)
  have hA2 := hA.keep hb2
  clear y0 y1 y2 y3 y4 yf ys
  obtain ⟨x0, x1, x2, x3, x4, xf, xs⟩ := O1.later hb
  obtain ⟨y0, y1, y2, y3, y4, yf, ys⟩ := Q1.later hb
  clear hb hb1 hA1 H2 O1 Q1
  go_wp2_with fail
  refine (H5.out _ hA2).mono ?_
  rintro e3 w3 ⟨rfl, hb⟩
  have hbz := hb2.trans (hb.mono hb2.size)
  clear hb
  go_wp2_with fail
  go_ret
  exact ⟨rfl, by repeat' (first | (with_reducible exact hbz) | (with_reducible exact Below.refl _ _) | (with_reducible refine below_drewN ?_ _) | (with_reducible refine Below.drew ?_) | (with_reducible refine Below.alloc ?_ ?_ _) | (with_reducible refine Below.setCell ?_ ?_ _) | go_size)⟩
set_option maxRecDepth 100000 in
set_option maxHeartbeats 4000000 in
theorem walk_n4 (a b c d r k : Int) (x y : ByteArray) (S T : ByteArray) (w : World) (hA : Asked w) (h1 : Enc ⟨a, b, c, d, r⟩ S 0) (h2 : Enc ⟨a, b, c, d, k⟩ T 0) (hm : x.size ≤ 1000) (hn : y.size ≤ 1000) (lS : S.size ≤ 50) (lT : T.size ≤ 50) (ne : ¬ r = k) (nS : ¬ S = T) (nx : ¬ S ++ x = T ++ y) : okA ⟨a, b, c, d, r⟩ ⟨a, b, c, d, k⟩ x y w := by
  have t3 : decide (1000 < x.size) = false := decide_eq_false (by omega)
  have t4 : decide ((1000 : Int) < (x.size : Int)) = false := decide_eq_false (by omega)
  have t5 : decide (1000 < y.size) = false := decide_eq_false (by omega)
  have t6 : decide ((1000 : Int) < (y.size : Int)) = false := decide_eq_false (by omega)
  have n1 : (r == k) = false := by simpa using ne
  have n3 : (S.toList == T.toList) = false := by rw [beq_eq_false_iff_ne]; exact fun e => nS (toList_inj e)
  have n4 : ((S ++ x).toList == (T ++ y).toList) = false := by rw [beq_eq_false_iff_ne]; exact fun e => nx (toList_inj e)
  unfold okA
  unfold Enc at h1 h2
  simp only [Od.v] at h1 h2 ⊢
  have H1 := Lib.hid h1
  have H2 := Lib.hid h2
  have H5 := Lib.hid works_any
  clear h1 h2
  go_enter Tryd.func6, Tryd.ntmps6
  go_wp2_with fail
  go_quiet (fail)
  go_wp2_with fail
  refine (H1.out _ (hA.keep (by repeat' (first | (with_reducible exact Below.refl _ _) | (with_reducible refine below_drewN ?_ _) | (with_reducible refine Below.drew ?_) | (with_reducible refine Below.alloc ?_ ?_ _) | (with_reducible refine Below.setCell ?_ ?_ _) | go_size)))).mono ?_
  rintro e1 w1 ⟨rfl, hb⟩
  have O1 : Box5 w1 w.heap.size (.int .i64 a) (.int .i64 b) (.int .i64 c) (.int .i64 d) (.int .i64 r) := Box5.later ⟨by go_simp, by go_simp, by go_simp, by go_simp, by go_simp, fun i => by go_simp, by go_size⟩ hb
  have Q1 : Box5 w1 (w.heap.size + 1) (.int .i64 a) (.int .i64 b) (.int .i64 c) (.int .i64 d) (.int .i64 k) := Box5.later ⟨by go_simp, by go_simp, by go_simp, by go_simp, by go_simp, fun i => by go_simp, by go_size⟩ hb
  have hb1 : Below w.heap.size w w1 := Below.trans (by repeat' (first | (with_reducible exact Below.refl _ _) | (with_reducible refine below_drewN ?_ _) | (with_reducible refine Below.drew ?_) | (with_reducible refine Below.alloc ?_ ?_ _) | (with_reducible refine Below.setCell ?_ ?_ _) | go_size)) (hb.mono (by go_size))
  have hA1 := hA.keep hb1
  clear hb H1
  obtain ⟨y0, y1, y2, y3, y4, yf, ys⟩ := id Q1
  go_wp2_with fail
  refine (H2.out _ hA1).mono ?_
  rintro e2 w2 ⟨rfl, hb⟩
  have hb2 := hb1.trans (hb.mono hb1.size)
  have hA2 := hA.keep hb2
  clear y0 y1 y2 y3 y4 yf ys
  obtain ⟨x0, x1, x2, x3, x4, xf, xs⟩ := O1.later hb
  obtain ⟨y0, y1, y2, y3, y4, yf, ys⟩ := Q1.later hb
  clear hb hb1 hA1 H2 O1 Q1
  go_wp2_with fail
  refine (H5.out _ hA2).mono ?_
  rintro e3 w3 ⟨rfl, hb⟩
  have hbz := hb2.trans (hb.mono hb2.size)
  clear hb
  go_wp2_with fail
  go_ret
  exact ⟨rfl, by repeat' (first | (with_reducible exact hbz) | (with_reducible exact Below.refl _ _) | (with_reducible refine below_drewN ?_ _) | (with_reducible refine Below.drew ?_) | (with_reducible refine Below.alloc ?_ ?_ _) | (with_reducible refine Below.setCell ?_ ?_ _) | go_size)⟩
set_option maxRecDepth 100000 in
set_option maxHeartbeats 4000000 in
theorem walk_s (a b c d r : Int) (x y : ByteArray) (S T : ByteArray) (w : World) (hA : Asked w) (h1 : Enc ⟨a, b, c, d, r⟩ S 0) (h2 : Enc ⟨a, b, c, d, r⟩ T 0) (hm : x.size ≤ 1000) (hn : y.size ≤ 1000) (lS : S.size ≤ 50) (lT : T.size ≤ 50) (nx : ¬ x = y) (nz : ¬ S ++ x = T ++ y) (hS : S = T) : okA ⟨a, b, c, d, r⟩ ⟨a, b, c, d, r⟩ x y w := by
  have t3 : decide (1000 < x.size) = false := decide_eq_false (by omega)
  have t4 : decide ((1000 : Int) < (x.size : Int)) = false := decide_eq_false (by omega)
  have t5 : decide (1000 < y.size) = false := decide_eq_false (by omega)
  have t6 : decide ((1000 : Int) < (y.size : Int)) = false := decide_eq_false (by omega)
  subst hS
  have n3 : (x.toList == y.toList) = false := by rw [beq_eq_false_iff_ne]; exact fun e => nx (toList_inj e)
  have n4 : ((S ++ x).toList == (S ++ y).toList) = false := by rw [beq_eq_false_iff_ne]; exact fun e => nz (toList_inj e)
  unfold okA
  unfold Enc at h1 h2
  simp only [Od.v] at h1 h2 ⊢
  have H1 := Lib.hid h1
  have H2 := Lib.hid h2
  have H5 := Lib.hid works_any
  clear h1 h2
  go_enter Tryd.func6, Tryd.ntmps6
  go_wp2_with fail
  go_quiet (fail)
  go_wp2_with fail
  refine (H1.out _ (hA.keep (by repeat' (first | (with_reducible exact Below.refl _ _) | (with_reducible refine below_drewN ?_ _) | (with_reducible refine Below.drew ?_) | (with_reducible refine Below.alloc ?_ ?_ _) | (with_reducible refine Below.setCell ?_ ?_ _) | go_size)))).mono ?_
  rintro e1 w1 ⟨rfl, hb⟩
  have O1 : Box5 w1 w.heap.size (.int .i64 a) (.int .i64 b) (.int .i64 c) (.int .i64 d) (.int .i64 r) := Box5.later ⟨by go_simp, by go_simp, by go_simp, by go_simp, by go_simp, fun i => by go_simp, by go_size⟩ hb
  have Q1 : Box5 w1 (w.heap.size + 1) (.int .i64 a) (.int .i64 b) (.int .i64 c) (.int .i64 d) (.int .i64 r) := Box5.later ⟨by go_simp, by go_simp, by go_simp, by go_simp, by go_simp, fun i => by go_simp, by go_size⟩ hb
  have hb1 : Below w.heap.size w w1 := Below.trans (by repeat' (first | (with_reducible exact Below.refl _ _) | (with_reducible refine below_drewN ?_ _) | (with_reducible refine Below.drew ?_) | (with_reducible refine Below.alloc ?_ ?_ _) | (with_reducible refine Below.setCell ?_ ?_ _) | go_size)) (hb.mono (by go_size))
  have hA1 := hA.keep hb1
  clear hb H1
  obtain ⟨y0, y1, y2, y3, y4, yf, ys⟩ := id Q1
  go_wp2_with fail
  refine (H2.out _ hA1).mono ?_
  rintro e2 w2 ⟨rfl, hb⟩
  have hb2 := hb1.trans (hb.mono hb1.size)
  have hA2 := hA.keep hb2
  clear y0 y1 y2 y3 y4 yf ys
  obtain ⟨x0, x1, x2, x3, x4, xf, xs⟩ := O1.later hb
  obtain ⟨y0, y1, y2, y3, y4, yf, ys⟩ := Q1.later hb
  clear hb hb1 hA1 H2 O1 Q1
  go_wp2_with fail
  refine (H5.out _ hA2).mono ?_
  rintro e3 w3 ⟨rfl, hb⟩
  have hbz := hb2.trans (hb.mono hb2.size)
  clear hb
  go_wp2_with fail
  go_ret
  exact ⟨rfl, by repeat' (first | (with_reducible exact hbz) | (with_reducible exact Below.refl _ _) | (with_reducible refine below_drewN ?_ _) | (with_reducible refine Below.drew ?_) | (with_reducible refine Below.alloc ?_ ?_ _) | (with_reducible refine Below.setCell ?_ ?_ _) | go_size)⟩
set_option maxRecDepth 100000 in
set_option maxHeartbeats 4000000 in
theorem walk_t (a b c d r : Int) (x y : ByteArray) (S T : ByteArray) (w : World) (hA : Asked w) (h1 : Enc ⟨a, b, c, d, r⟩ S 0) (h2 : Enc ⟨a, b, c, d, r⟩ T 0) (hm : x.size ≤ 1000) (hn : y.size ≤ 1000) (lS : S.size ≤ 50) (lT : T.size ≤ 50) (hx : x = y) (hS : S = T) : okA ⟨a, b, c, d, r⟩ ⟨a, b, c, d, r⟩ x y w := by
  have t3 : decide (1000 < x.size) = false := decide_eq_false (by omega)
  have t4 : decide ((1000 : Int) < (x.size : Int)) = false := decide_eq_false (by omega)
  have t5 : decide (1000 < y.size) = false := decide_eq_false (by omega)
  have t6 : decide ((1000 : Int) < (y.size : Int)) = false := decide_eq_false (by omega)
  subst hS
  subst hx
  unfold okA
  unfold Enc at h1 h2
  simp only [Od.v] at h1 h2 ⊢
  have H1 := Lib.hid h1
  have H2 := Lib.hid h2
  have H5 := Lib.hid works_any
  clear h1 h2
  go_enter Tryd.func6, Tryd.ntmps6
  go_wp2_with fail
  go_quiet (fail)
  go_wp2_with fail
  refine (H1.out _ (hA.keep (by repeat' (first | (with_reducible exact Below.refl _ _) | (with_reducible refine below_drewN ?_ _) | (with_reducible refine Below.drew ?_) | (with_reducible refine Below.alloc ?_ ?_ _) | (with_reducible refine Below.setCell ?_ ?_ _) | go_size)))).mono ?_
  rintro e1 w1 ⟨rfl, hb⟩
  have O1 : Box5 w1 w.heap.size (.int .i64 a) (.int .i64 b) (.int .i64 c) (.int .i64 d) (.int .i64 r) := Box5.later ⟨by go_simp, by go_simp, by go_simp, by go_simp, by go_simp, fun i => by go_simp, by go_size⟩ hb
  have Q1 : Box5 w1 (w.heap.size + 1) (.int .i64 a) (.int .i64 b) (.int .i64 c) (.int .i64 d) (.int .i64 r) := Box5.later ⟨by go_simp, by go_simp, by go_simp, by go_simp, by go_simp, fun i => by go_simp, by go_size⟩ hb
  have hb1 : Below w.heap.size w w1 := Below.trans (by repeat' (first | (with_reducible exact Below.refl _ _) | (with_reducible refine below_drewN ?_ _) | (with_reducible refine Below.drew ?_) | (with_reducible refine Below.alloc ?_ ?_ _) | (with_reducible refine Below.setCell ?_ ?_ _) | go_size)) (hb.mono (by go_size))
  have hA1 := hA.keep hb1
  clear hb H1
  obtain ⟨y0, y1, y2, y3, y4, yf, ys⟩ := id Q1
  go_wp2_with fail
  refine (H2.out _ hA1).mono ?_
  rintro e2 w2 ⟨rfl, hb⟩
  have hb2 := hb1.trans (hb.mono hb1.size)
  have hA2 := hA.keep hb2
  clear y0 y1 y2 y3 y4 yf ys
  obtain ⟨x0, x1, x2, x3, x4, xf, xs⟩ := O1.later hb
  obtain ⟨y0, y1, y2, y3, y4, yf, ys⟩ := Q1.later hb
  clear hb hb1 hA1 H2 O1 Q1
  go_wp2_with fail
  refine (H5.out _ hA2).mono ?_
  rintro e3 w3 ⟨rfl, hb⟩
  have hbz := hb2.trans (hb.mono hb2.size)
  clear hb
  go_wp2_with fail
  go_ret
  exact ⟨rfl, by repeat' (first | (with_reducible exact hbz) | (with_reducible exact Below.refl _ _) | (with_reducible refine below_drewN ?_ _) | (with_reducible refine Below.drew ?_) | (with_reducible refine Below.alloc ?_ ?_ _) | (with_reducible refine Below.setCell ?_ ?_ _) | go_size)⟩
theorem enc_of {o : Od} (hi : o.ints) : (o.may = false → Enc o ⟨#[]⟩ 2) ∧ (o.may = true → Enc o ⟨o.enc.toArray⟩ 0) := by
  constructor <;> intro hm X hX
  · have h := encode_any o X hX hi
    rwa [show o.encR = .tuple #[.string ⟨#[]⟩, .int .i64 2] by unfold Od.encR; rw [hm]; rfl] at h
  · have h := encode_any o X hX hi
    rwa [show o.encR = .tuple #[.string ⟨o.enc.toArray⟩, .int .i64 0] by unfold Od.encR; rw [if_pos hm]] at h
theorem size_of {o : Od} (hi : o.ints) : (⟨o.enc.toArray⟩ : ByteArray).size ≤ 50 := by
  show o.enc.toArray.size ≤ 50
  rw [List.size_toArray]; exact (enc_len hi).2
theorem apart_bytes {o q : Od} (hi : o.ints) (hq : q.ints) {x y : ByteArray} (h : (⟨o.enc.toArray⟩ : ByteArray) ++ x = ⟨q.enc.toArray⟩ ++ y) : o = q ∧ x = y := by
  have e : o.enc ++ x.data.toList = q.enc ++ y.data.toList := by
    have := congrArg (fun s : ByteArray => s.data.toList) h
    simpa [ByteArray.data_append] using this
  obtain ⟨h1, h2⟩ := enc_apart hi hq e
  exact ⟨h1, ByteArray.ext (Array.toList_inj.1 h2)⟩
theorem walk (o q : Od) (x y : ByteArray) (w : World) (hA : Asked w) (hi : o.ints) (hq : q.ints) : okA o q x y w := by
  rcases ho : o.may with _ | _
  · rcases hp : q.may with _ | _
    · exact walk_e2 o q x y _ _ w hA ((enc_of hi).1 ho) ((enc_of hq).1 hp)
    · exact walk_e o q x y _ _ w hA ((enc_of hi).1 ho) ((enc_of hq).2 hp)
  · rcases hp : q.may with _ | _
    · exact walk_f o q x y _ _ w hA ((enc_of hi).2 ho) ((enc_of hq).1 hp)
    · have e1 := (enc_of hi).2 ho
      have e2 := (enc_of hq).2 hp
      by_cases hx : 1000 < x.size
      · exact walk_x o q x y _ _ w hA e1 e2 hx
      by_cases hy : 1000 < y.size
      · exact walk_y o q x y _ _ w hA e1 e2 (by omega) hy
      have lS := size_of hi
      have lT := size_of hq
      by_cases he : o = q
      · subst he
        obtain ⟨a, b, c, d, r⟩ := o
        by_cases hxy : x = y
        · exact walk_t a b c d r x y _ _ w hA e1 e2 (by omega) (by omega) lS lT hxy rfl
        · exact walk_s a b c d r x y _ _ w hA e1 e2 (by omega) (by omega) lS lT hxy (fun h => hxy (apart_bytes hi hq h).2) rfl
      · have nS : ¬ (⟨o.enc.toArray⟩ : ByteArray) = ⟨q.enc.toArray⟩ := fun h => he (apart_bytes hi hq (x := ⟨#[]⟩) (y := ⟨#[]⟩) (by rw [h])).1
        have nx : ¬ (⟨o.enc.toArray⟩ : ByteArray) ++ x = ⟨q.enc.toArray⟩ ++ y := fun h => he (apart_bytes hi hq h).1
        obtain ⟨a, b, c, d, r⟩ := o
        obtain ⟨g, h, i, j, k⟩ := q
        by_cases h0 : a = g
        · subst h0
          by_cases h1 : b = h
          · subst h1
            by_cases h2 : c = i
            · subst h2
              by_cases h3 : d = j
              · subst h3
                by_cases h4 : r = k
                · subst h4; exact absurd rfl he
                · exact walk_n4 _ _ _ _ _ _ x y _ _ w hA e1 e2 (by omega) (by omega) lS lT h4 nS nx
              · exact walk_n3 _ _ _ _ _ _ _ x y _ _ w hA e1 e2 (by omega) (by omega) lS lT h3 nS nx
            · exact walk_n2 _ _ _ _ _ _ _ _ x y _ _ w hA e1 e2 (by omega) (by omega) lS lT h2 nS nx
          · exact walk_n1 _ _ _ _ _ _ _ _ _ x y _ _ w hA e1 e2 (by omega) (by omega) lS lT h1 nS nx
        · exact walk_n0 _ _ _ _ _ _ _ _ _ _ x y _ _ w hA e1 e2 (by omega) (by omega) lS lT h0 nS nx
end Go.Proofs.YtncbjekmkihilaaDoor.ordersApartW
