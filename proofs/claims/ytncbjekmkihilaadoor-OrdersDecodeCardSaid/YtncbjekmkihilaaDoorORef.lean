/-
  May, Check and Encode of the document's orders; Encode of package orders.
-/
import Derived.Test.YtncbjekmkihilaaDoorOCheck
import Derived.Test.YtncbjekmkihilaaDoorRGet
namespace Go.Proofs.YtncbjekmkihilaaDoor
open Go.RowKit Go.Sort
theorem omark_len {n : Int} (h0 : -9223372036854775808 ≤ n) (h1 : n ≤ 9223372036854775807) : 1 ≤ (mark n).length ∧ (mark n).length ≤ 10 :=
  ⟨Lib.uvarint_pos _, Lib.uvarint_length64 (Lib.zigzag_lt h0 h1)⟩
theorem str_mk (l m : List UInt8) : (⟨l.toArray⟩ ++ ⟨m.toArray⟩ : ByteArray) = ⟨(l ++ m).toArray⟩ := by
  apply ByteArray.ext
  simp [ByteArray.data_append]
/-- A mark as a string, under a name, no longer than ten bytes. -/
theorem mark_name {n : Int} (h0 : -9223372036854775808 ≤ n) (h1 : n ≤ 9223372036854775807) : ∃ s : ByteArray, Hid (s = ⟨(mark n).toArray⟩) ∧ s.size ≤ 10 :=
  ⟨⟨(mark n).toArray⟩, Lib.hid rfl, by show (mark n).toArray.size ≤ 10; rw [List.size_toArray]; exact (omark_len h0 h1).2⟩
set_option maxRecDepth 100000 in
set_option maxHeartbeats 4000000 in
theorem rmay_any (o : Od) (w : World) : Calls Tryd.prog 19 #[o.v] w (NumPost (.bool o.may) w) := by
  have HM : Hid (o.may = decide (1 ≤ o.id ∧ o.id ≤ 2147483647 ∧ 0 ≤ o.st ∧ o.st ≤ 3 ∧ -1 ≤ o.ex ∧ o.ex ≤ 2147483647 ∧ 1 ≤ o.ki ∧ o.ki ≤ 4 ∧ -1048576 ≤ o.ar ∧ o.ar ≤ 1048576)) := rfl
  generalize o.may = my at *
  obtain ⟨a, b, c, d, f⟩ := o
  simp only [Od.v] at HM ⊢
  by_cases t00 : ¬ (1 ≤ a)
  · have u : decide (1 ≤ a) = false := decide_eq_false t00
    go_enter Tryd.func19, Tryd.ntmps19
    go_wp2_with fail
    go_ret
    exact ⟨ret_bool (by rw [HM.out]; simp; omega), (Below.refl _ _).alloc (Nat.le_refl _) _⟩
  have t00b : decide (1 ≤ a) = true := decide_eq_true (Decidable.not_not.1 t00)
  by_cases t01 : ¬ (a ≤ 2147483647)
  · have u : decide (a ≤ 2147483647) = false := decide_eq_false t01
    go_enter Tryd.func19, Tryd.ntmps19
    go_wp2_with fail
    go_ret
    exact ⟨ret_bool (by rw [HM.out]; simp; omega), (Below.refl _ _).alloc (Nat.le_refl _) _⟩
  have t01b : decide (a ≤ 2147483647) = true := decide_eq_true (Decidable.not_not.1 t01)
  by_cases t10 : ¬ (0 ≤ b)
  · have u : decide (0 ≤ b) = false := decide_eq_false t10
    go_enter Tryd.func19, Tryd.ntmps19
    go_wp2_with fail
    go_ret
    exact ⟨ret_bool (by rw [HM.out]; simp; omega), (Below.refl _ _).alloc (Nat.le_refl _) _⟩
  have t10b : decide (0 ≤ b) = true := decide_eq_true (Decidable.not_not.1 t10)
  by_cases t11 : ¬ (b < 4)
  · have u : decide (b < 4) = false := decide_eq_false t11
    go_enter Tryd.func19, Tryd.ntmps19
    go_wp2_with fail
    go_ret
    exact ⟨ret_bool (by rw [HM.out]; simp; omega), (Below.refl _ _).alloc (Nat.le_refl _) _⟩
  have t11b : decide (b < 4) = true := decide_eq_true (Decidable.not_not.1 t11)
  by_cases t20 : ¬ ((-1) ≤ c)
  · have u : decide ((-1) ≤ c) = false := decide_eq_false t20
    go_enter Tryd.func19, Tryd.ntmps19
    go_wp2_with fail
    go_ret
    exact ⟨ret_bool (by rw [HM.out]; simp; omega), (Below.refl _ _).alloc (Nat.le_refl _) _⟩
  have t20b : decide ((-1) ≤ c) = true := decide_eq_true (Decidable.not_not.1 t20)
  by_cases t21 : ¬ (c ≤ 2147483647)
  · have u : decide (c ≤ 2147483647) = false := decide_eq_false t21
    go_enter Tryd.func19, Tryd.ntmps19
    go_wp2_with fail
    go_ret
    exact ⟨ret_bool (by rw [HM.out]; simp; omega), (Below.refl _ _).alloc (Nat.le_refl _) _⟩
  have t21b : decide (c ≤ 2147483647) = true := decide_eq_true (Decidable.not_not.1 t21)
  by_cases t30 : ¬ (1 ≤ d)
  · have u : decide (1 ≤ d) = false := decide_eq_false t30
    go_enter Tryd.func19, Tryd.ntmps19
    go_wp2_with fail
    go_ret
    exact ⟨ret_bool (by rw [HM.out]; simp; omega), (Below.refl _ _).alloc (Nat.le_refl _) _⟩
  have t30b : decide (1 ≤ d) = true := decide_eq_true (Decidable.not_not.1 t30)
  by_cases t31 : ¬ (d ≤ 4)
  · have u : decide (d ≤ 4) = false := decide_eq_false t31
    go_enter Tryd.func19, Tryd.ntmps19
    go_wp2_with fail
    go_ret
    exact ⟨ret_bool (by rw [HM.out]; simp; omega), (Below.refl _ _).alloc (Nat.le_refl _) _⟩
  have t31b : decide (d ≤ 4) = true := decide_eq_true (Decidable.not_not.1 t31)
  by_cases t40 : ¬ ((-1048576) ≤ f)
  · have u : decide ((-1048576) ≤ f) = false := decide_eq_false t40
    go_enter Tryd.func19, Tryd.ntmps19
    go_wp2_with fail
    go_ret
    exact ⟨ret_bool (by rw [HM.out]; simp; omega), (Below.refl _ _).alloc (Nat.le_refl _) _⟩
  have t40b : decide ((-1048576) ≤ f) = true := decide_eq_true (Decidable.not_not.1 t40)
  by_cases t41 : ¬ (f ≤ 1048576)
  · have u : decide (f ≤ 1048576) = false := decide_eq_false t41
    go_enter Tryd.func19, Tryd.ntmps19
    go_wp2_with fail
    go_ret
    exact ⟨ret_bool (by rw [HM.out]; simp; omega), (Below.refl _ _).alloc (Nat.le_refl _) _⟩
  have t41b : decide (f ≤ 1048576) = true := decide_eq_true (Decidable.not_not.1 t41)
  go_enter Tryd.func19, Tryd.ntmps19
  go_wp2_with fail
  go_ret
  exact ⟨ret_bool (by rw [HM.out]; simp; omega), (Below.refl _ _).alloc (Nat.le_refl _) _⟩
set_option maxRecDepth 100000 in
set_option maxHeartbeats 1000000 in
theorem rcheck_any (o : Od) (w : World) : Calls Tryd.prog 12 #[o.v] w (NumPost (.int .i64 o.err) w) := by
  have G := fun X => rmay_any o X
  have HE := Lib.hid (show o.err = if o.may then 0 else 2 from rfl)
  generalize o.err = er at *
  generalize o.may = my at *
  obtain ⟨a, b, c, d, f⟩ := o
  simp only [Od.v] at G ⊢
  have HG := Lib.hid G
  clear G
  cases my
  all_goals
    go_enter Tryd.func12, Tryd.ntmps12
    go_wp2_with fail
    refine (HG.out _).mono ?_
    rintro e w1 ⟨rfl, hb1⟩
    have hb2 : Below w.heap.size w w1 := ((Below.refl _ _).alloc (Nat.le_refl _) _).trans (hb1.mono (by simp))
    go_wp2_with fail
    go_ret
    exact ⟨by rw [HE.out]; rfl, hb2⟩
/-- The bytes of an order out of its marks' strings. -/
theorem enc_name {o : Od} {sa sb sc sd se : ByteArray} (ha : sa = ⟨(mark o.id).toArray⟩) (hb : sb = ⟨(mark o.st).toArray⟩) (hc : sc = ⟨(mark o.ex).toArray⟩) (hd : sd = ⟨(mark o.ki).toArray⟩) (he : se = ⟨(mark o.ar).toArray⟩) :
    sa ++ sb ++ sc ++ sd ++ se = ⟨o.enc.toArray⟩ := by
  subst ha hb hc hd he
  rw [str_mk, str_mk, str_mk, str_mk, Od.enc]
  simp only [List.append_assoc]
theorem Od.ints_at {o : Od} (h : o.ints) : (-9223372036854775808 ≤ o.id ∧ o.id ≤ 9223372036854775807) ∧ (-9223372036854775808 ≤ o.st ∧ o.st ≤ 9223372036854775807) ∧ (-9223372036854775808 ≤ o.ex ∧ o.ex ≤ 9223372036854775807) ∧ (-9223372036854775808 ≤ o.ki ∧ o.ki ≤ 9223372036854775807) ∧ (-9223372036854775808 ≤ o.ar ∧ o.ar ≤ 9223372036854775807) :=
  ⟨h _ (by simp [Od.l]), h _ (by simp [Od.l]), h _ (by simp [Od.l]), h _ (by simp [Od.l]), h _ (by simp [Od.l])⟩
set_option maxRecDepth 100000 in
set_option maxHeartbeats 4000000 in
theorem rencode_any (o : Od) (w : World) (hi : o.ints) : Calls Tryd.prog 10 #[o.v] w (NumPost o.encR w) := by
  have G := fun X => rmay_any o X
  have HE := Lib.hid (show o.encR = if o.may then .tuple #[.string ⟨o.enc.toArray⟩, .int .i64 0] else .tuple #[.string ⟨#[]⟩, .int .i64 2] from rfl)
  obtain ⟨⟨i0, i1⟩, ⟨i2, i3⟩, ⟨i4, i5⟩, ⟨i6, i7⟩, ⟨i8, i9⟩⟩ := Od.ints_at hi
  have p0 : ∀ X, Calls Tryd.prog 20 #[.int .i64 o.id] X (fun e w' => e = .returned (.string ⟨(mark o.id).toArray⟩) ∧ Below X.heap.size X w') := fun X => rput_any o.id X i0 i1
  have p1 : ∀ X, Calls Tryd.prog 20 #[.int .i64 o.st] X (fun e w' => e = .returned (.string ⟨(mark o.st).toArray⟩) ∧ Below X.heap.size X w') := fun X => rput_any o.st X i2 i3
  have p2 : ∀ X, Calls Tryd.prog 20 #[.int .i64 o.ex] X (fun e w' => e = .returned (.string ⟨(mark o.ex).toArray⟩) ∧ Below X.heap.size X w') := fun X => rput_any o.ex X i4 i5
  have p3 : ∀ X, Calls Tryd.prog 20 #[.int .i64 o.ki] X (fun e w' => e = .returned (.string ⟨(mark o.ki).toArray⟩) ∧ Below X.heap.size X w') := fun X => rput_any o.ki X i6 i7
  have p4 : ∀ X, Calls Tryd.prog 20 #[.int .i64 o.ar] X (fun e w' => e = .returned (.string ⟨(mark o.ar).toArray⟩) ∧ Below X.heap.size X w') := fun X => rput_any o.ar X i8 i9
  obtain ⟨sa, ha, la⟩ := mark_name i0 i1
  obtain ⟨sb, hb, lb⟩ := mark_name i2 i3
  obtain ⟨sc, hc, lc⟩ := mark_name i4 i5
  obtain ⟨sd, hd, ld⟩ := mark_name i6 i7
  obtain ⟨se, he, le⟩ := mark_name i8 i9
  have HS := Lib.hid (enc_name ha.out hb.out hc.out hd.out he.out)
  rw [← ha.out] at p0
  rw [← hb.out] at p1
  rw [← hc.out] at p2
  rw [← hd.out] at p3
  rw [← he.out] at p4
  rw [← HS.out] at HE
  generalize o.encR = er at *
  generalize o.may = my at *
  clear hi HS ha hb hc hd he
  obtain ⟨a, b, c, d, f⟩ := o
  simp only [Od.v] at *
  have HG := Lib.hid G
  have P0 := Lib.hid p0
  have P1 := Lib.hid p1
  have P2 := Lib.hid p2
  have P3 := Lib.hid p3
  have P4 := Lib.hid p4
  clear G p0 p1 p2 p3 p4 i0 i1 i2 i3 i4 i5 i6 i7 i8 i9
  cases my
  · go_enter Tryd.func10, Tryd.ntmps10
    go_wp2_with fail
    refine (HG.out _).mono ?_
    rintro e w1 ⟨rfl, hb1⟩
    have hb2 : Below w.heap.size w w1 := ((Below.refl _ _).alloc (Nat.le_refl _) _).trans (hb1.mono (by simp))
    go_wp2_with fail
    go_ret2
    exact ⟨by rw [HE.out]; rfl, hb2⟩
  · go_enter Tryd.func10, Tryd.ntmps10
    go_wp2_with fail
    refine (HG.out _).mono ?_
    rintro e w1 ⟨rfl, hb1⟩
    have hb2 : Below w.heap.size w w1 := ((Below.refl _ _).alloc (Nat.le_refl _) _).trans (hb1.mono (by simp))
    go_wp2_with fail
    have hz : w.heap.size < (w.alloc (.cells #[.int .i64 a, .int .i64 b, .int .i64 c, .int .i64 d, .int .i64 f] 23)).heap.size := by simp
    have k0 : ∀ d' os, (grow (redrawn w1 d') os).cell? ⟨w.heap.size, 0, none⟩ = some (.int .i64 a) := fun d' os => cell_regrown ((hb1.cell (p := ⟨w.heap.size, 0, none⟩) hz).trans (by simp [go_sem])) d' os
    have k1 : ∀ d' os, (grow (redrawn w1 d') os).cell? ⟨w.heap.size, 1, none⟩ = some (.int .i64 b) := fun d' os => cell_regrown ((hb1.cell (p := ⟨w.heap.size, 1, none⟩) hz).trans (by simp [go_sem])) d' os
    have k2 : ∀ d' os, (grow (redrawn w1 d') os).cell? ⟨w.heap.size, 2, none⟩ = some (.int .i64 c) := fun d' os => cell_regrown ((hb1.cell (p := ⟨w.heap.size, 2, none⟩) hz).trans (by simp [go_sem])) d' os
    have k3 : ∀ d' os, (grow (redrawn w1 d') os).cell? ⟨w.heap.size, 3, none⟩ = some (.int .i64 d) := fun d' os => cell_regrown ((hb1.cell (p := ⟨w.heap.size, 3, none⟩) hz).trans (by simp [go_sem])) d' os
    have k4 : ∀ d' os, (grow (redrawn w1 d') os).cell? ⟨w.heap.size, 4, none⟩ = some (.int .i64 f) := fun d' os => cell_regrown ((hb1.cell (p := ⟨w.heap.size, 4, none⟩) hz).trans (by simp [go_sem])) d' os
    have c0 : ∀ d' os, Calls Tryd.prog 20 #[.int .i64 a] (grow (redrawn w1 d') os) fun e w'' => e = .returned (.string sa) ∧ ∃ p : Regrown, w'' = grow (redrawn w1 p.d) p.os := fun d' os => Calls.regrown_of (P0.out _)
    have c1 : ∀ d' os, Calls Tryd.prog 20 #[.int .i64 b] (grow (redrawn w1 d') os) fun e w'' => e = .returned (.string sb) ∧ ∃ p : Regrown, w'' = grow (redrawn w1 p.d) p.os := fun d' os => Calls.regrown_of (P1.out _)
    have c2 : ∀ d' os, Calls Tryd.prog 20 #[.int .i64 c] (grow (redrawn w1 d') os) fun e w'' => e = .returned (.string sc) ∧ ∃ p : Regrown, w'' = grow (redrawn w1 p.d) p.os := fun d' os => Calls.regrown_of (P2.out _)
    have c3 : ∀ d' os, Calls Tryd.prog 20 #[.int .i64 d] (grow (redrawn w1 d') os) fun e w'' => e = .returned (.string sd) ∧ ∃ p : Regrown, w'' = grow (redrawn w1 p.d) p.os := fun d' os => Calls.regrown_of (P3.out _)
    have c4 : ∀ d' os, Calls Tryd.prog 20 #[.int .i64 f] (grow (redrawn w1 d') os) fun e w'' => e = .returned (.string se) ∧ ∃ p : Regrown, w'' = grow (redrawn w1 p.d) p.os := fun d' os => Calls.regrown_of (P4.out _)
    clear HG P0 P1 P2 P3 P4
    refine wp_region_quiet_below (by kernel_rfl) (by kernel_rfl) ?_
    repeat (go_big_quiet_step (first | with_reducible exact c0 _ _ | with_reducible exact c1 _ _ | with_reducible exact c2 _ _ | with_reducible exact c3 _ _ | with_reducible exact c4 _ _))
    refine wpQuiet_nil ?_
    intro _ hw'
    obtain ⟨⟨dq, osq⟩, hw''⟩ := hw'
    subst hw''
    have hbq := below_regrown w1 dq osq
    generalize grow (redrawn w1 dq) osq = u2 at *
    clear k0 k1 k2 k3 k4 c0 c1 c2 c3 c4
    go_wp2_with fail
    go_ret2
    exact ⟨by rw [HE.out]; rfl, hb2.trans (hbq.mono hb2.size)⟩
end Go.Proofs.YtncbjekmkihilaaDoor
