/-
  The walk of the law DeedsExpect: it returns true and writes nothing that was there.
-/
import Derived.Test.YtpboleiifmepeaaDoorAeTail
import Derived.Deep.DeepCutAuto
namespace Go.Proofs.YtpboleiifmepeaaDoor.deedsExpectW
open Go.RowKit Go.Sort
/-- An order's Expect stored. -/
theorem set_ex {W w3 : World} {g n : Nat} {a b c d e c' : Value} {T : TypeId} (hg : W.heap[g]? = some (.cells #[a, b, c, d, e] T (0, 0))) (hn : n ≤ g) (h : w3 = W.setCell ⟨g, 2, none⟩ c') :
    w3.heap[g]? = some (.cells #[a, b, c', d, e] T (0, 0)) ∧ Below n W w3 ∧ w3.heap.size = W.heap.size ∧ ∀ k, k ≠ g → w3.heap[k]? = W.heap[k]? := by
  subst h
  exact ⟨heap_setCell_same _ _ 2 _ _ _ hg, (Below.refl _ _).setCell hn _, by simp [World.setCell], fun k hk => Below.heap_setCell _ _ _ _ hk⟩
theorem set_three {W w3 : World} {g n : Nat} {a b c a' b' c' : Value} {T : TypeId} (hg : W.heap[g]? = some (.cells #[a, b, c] T (0, 0))) (hn : n ≤ g)
    (h : w3 = ((W.setCell ⟨g, 0, none⟩ a').setCell ⟨g, 1, none⟩ b').setCell ⟨g, 2, none⟩ c') :
    w3.heap[g]? = some (.cells #[a', b', c'] T (0, 0)) ∧ Below n W w3 ∧ w3.heap.size = W.heap.size ∧ ∀ k, k ≠ g → w3.heap[k]? = W.heap[k]? := by
  subst h
  refine ⟨heap_setCell_same _ _ 2 _ _ _ (heap_setCell_same _ _ 1 _ _ _ (heap_setCell_same _ _ 0 _ _ _ hg)), (((Below.refl _ _).setCell hn _).setCell hn _).setCell hn _, by simp [World.setCell], fun k hk => ?_⟩
  exact (Below.heap_setCell _ _ _ _ hk).trans ((Below.heap_setCell _ _ _ _ hk).trans (Below.heap_setCell _ _ _ _ hk))
theorem far_three {W : World} {g b i : Nat} {a' b' c' : Value} (h : b ≠ g) : (((W.setCell ⟨g, 0, none⟩ a').setCell ⟨g, 1, none⟩ b').setCell ⟨g, 2, none⟩ c').cell? ⟨b, i, none⟩ = W.cell? ⟨b, i, none⟩ :=
  World.cell?_of_block ((Below.heap_setCell _ _ _ _ h).trans ((Below.heap_setCell _ _ _ _ h).trans (Below.heap_setCell _ _ _ _ h)))
set_option maxRecDepth 100000 in
set_option maxHeartbeats 16000000 in
theorem bad (t : Int) (c : Bool) (x v oi oj oe ok oa pi pj pe pk pa : Int) (w : World) (HAK : Hid (∀ X : World, Below w.heap.size w X → Asked X))
    (HM : Hid (∀ X : World, Calls Tryd.prog 15 #[.agg #[.int .i64 t, .bool c, .int .i64 x, .int .i64 v]] X (NumPost (.bool false) X))) :
    Calls Tryd.prog 7 #[.agg #[.int .i64 t, .bool c, .int .i64 x, .int .i64 v], .agg #[.int .i64 oi, .int .i64 oj, .int .i64 oe, .int .i64 ok, .int .i64 oa], .agg #[.int .i64 pi, .int .i64 pj, .int .i64 pe, .int .i64 pk, .int .i64 pa]] w (fun e w' => e = .returned (.bool true) ∧ Below w.heap.size w w') := by
  have HW := Lib.hid (fun X (hX : Below w.heap.size w X) => aeWorks_any X (HAK.out X hX))
  clear HAK
  obtain ⟨w1, HX1⟩ : ∃ W : World, Hid (W = (((w.alloc (.cells #[.int .i64 t, .bool c, .int .i64 x, .int .i64 v] 23)).alloc (.cells #[.int .i64 oi, .int .i64 oj, .int .i64 oe, .int .i64 ok, .int .i64 oa] 25)).alloc (.cells #[.int .i64 pi, .int .i64 pj, .int .i64 pe, .int .i64 pk, .int .i64 pa] 25))) := ⟨_, Lib.hid rfl⟩
  obtain ⟨hz1, hb1, h_s1, h_o1, h_p1⟩ := three_blocks HX1.out
  replace hz1 : w.heap.size + 3 ≤ w1.heap.size := by omega
  have c1_s0 : w1.cell? ⟨w.heap.size, 0, none⟩ = some (.int .i64 t) := by rw [Lib.cell_of_heap h_s1]; rfl
  have c1_s1 : w1.cell? ⟨w.heap.size, 1, none⟩ = some (.bool c) := by rw [Lib.cell_of_heap h_s1]; rfl
  have c1_s2 : w1.cell? ⟨w.heap.size, 2, none⟩ = some (.int .i64 x) := by rw [Lib.cell_of_heap h_s1]; rfl
  have c1_s3 : w1.cell? ⟨w.heap.size, 3, none⟩ = some (.int .i64 v) := by rw [Lib.cell_of_heap h_s1]; rfl
  go_enter Tryd.func7, Tryd.ntmps7
  go_wp2_with (rw [← HX1.out])
  refine (HM.out _).mono ?_
  rintro e w2 ⟨rfl, hb⟩
  clear c1_s0 c1_s1 c1_s2 c1_s3
  have h_s2 := (hb.block (w.heap.size) (by omega)).trans h_s1
  have h_o2 := (hb.block (w.heap.size + 1) (by omega)).trans h_o1
  have h_p2 := (hb.block (w.heap.size + 1 + 1) (by omega)).trans h_p1
  have hb2 : Below w.heap.size w w2 := hb1.trans (hb.mono (by omega))
  have hz2 : w1.heap.size ≤ w2.heap.size := hb.size
  clear hb
  go_wp2_with fail
  refine (HW.out _ hb2).mono ?_
  rintro e w3 ⟨rfl, hb⟩
  have h_s3 := (hb.block (w.heap.size) (by omega)).trans h_s2
  have h_o3 := (hb.block (w.heap.size + 1) (by omega)).trans h_o2
  have h_p3 := (hb.block (w.heap.size + 1 + 1) (by omega)).trans h_p2
  have hb3 : Below w.heap.size w w3 := hb2.trans (hb.mono (by omega))
  have hz3 : w2.heap.size ≤ w3.heap.size := hb.size
  clear hb
  go_wp2_with fail
  all_goals
    go_ret
    exact ⟨rfl, hb3⟩
set_option maxRecDepth 100000 in
set_option maxHeartbeats 16000000 in
theorem yes2 (t : Int) (c : Bool) (x v oi oj oe ok oa pi pj pe pk pa k1 a1 t' x' vb cc vc : Int) (c' : Bool) (evc : List Ev) (_z : Int) (w : World) (HAK : Hid (∀ X : World, Below w.heap.size w X → Asked X))
    (HM : Hid (∀ X : World, Calls Tryd.prog 15 #[.agg #[.int .i64 t, .bool c, .int .i64 x, .int .i64 v]] X (NumPost (.bool true) X)))
    (H1 : Hid (∀ X : World, Below w.heap.size w X → Calls Tryd.prog 9 #[.agg #[.int .i64 t, .bool c, .int .i64 x, .int .i64 v], .agg #[.int .i64 oi, .int .i64 oj, .int .i64 v, .int .i64 ok, .int .i64 oa]] X (DecPost ⟨1, (v + 1), [⟨k1, a1⟩]⟩ X)))
    (HT : Hid (∀ (X : World) (g : Nat), X.heap[g]? = some (.cells #[.int .i64 k1, .int .i64 a1] 32 (0, 0)) → Calls Tryd.prog 16 #[.agg #[.int .i64 t, .bool c, .int .i64 x, .int .i64 v], .agg #[.int .i64 1, .int .i64 (v + 1), .slice (some ⟨g, 0, none⟩) 1 1]] X (NumPost (.agg #[.int .i64 t', .bool c', .int .i64 x', .int .i64 (v + 1)]) X)))
    (H2 : Hid (∀ X : World, Below w.heap.size w X → Calls Tryd.prog 9 #[.agg #[.int .i64 t', .bool c', .int .i64 x', .int .i64 (v + 1)], .agg #[.int .i64 pi, .int .i64 pj, .int .i64 v, .int .i64 pk, .int .i64 pa]] X (DecPost ⟨2, vb, []⟩ X)))
    (H3 : Hid (∀ X : World, Below w.heap.size w X → Calls Tryd.prog 9 #[.agg #[.int .i64 t, .bool c, .int .i64 x, .int .i64 v], .agg #[.int .i64 pi, .int .i64 pj, .int .i64 (-1), .int .i64 pk, .int .i64 pa]] X (DecPost ⟨cc, vc, evc⟩ X))) (f4 : (cc != 2) = true) :
    Calls Tryd.prog 7 #[.agg #[.int .i64 t, .bool c, .int .i64 x, .int .i64 v], .agg #[.int .i64 oi, .int .i64 oj, .int .i64 oe, .int .i64 ok, .int .i64 oa], .agg #[.int .i64 pi, .int .i64 pj, .int .i64 pe, .int .i64 pk, .int .i64 pa]] w (fun e w' => e = .returned (.bool true) ∧ Below w.heap.size w w') := by
  have HW := Lib.hid (fun X (hX : Below w.heap.size w X) => aeWorks_any X (HAK.out X hX))
  clear HAK
  obtain ⟨w1, HX1⟩ : ∃ W : World, Hid (W = (((w.alloc (.cells #[.int .i64 t, .bool c, .int .i64 x, .int .i64 v] 23)).alloc (.cells #[.int .i64 oi, .int .i64 oj, .int .i64 oe, .int .i64 ok, .int .i64 oa] 25)).alloc (.cells #[.int .i64 pi, .int .i64 pj, .int .i64 pe, .int .i64 pk, .int .i64 pa] 25))) := ⟨_, Lib.hid rfl⟩
  obtain ⟨hz1, hb1, h_s1, h_o1, h_p1⟩ := three_blocks HX1.out
  replace hz1 : w.heap.size + 3 ≤ w1.heap.size := by omega
  have c1_s0 : w1.cell? ⟨w.heap.size, 0, none⟩ = some (.int .i64 t) := by rw [Lib.cell_of_heap h_s1]; rfl
  have c1_s1 : w1.cell? ⟨w.heap.size, 1, none⟩ = some (.bool c) := by rw [Lib.cell_of_heap h_s1]; rfl
  have c1_s2 : w1.cell? ⟨w.heap.size, 2, none⟩ = some (.int .i64 x) := by rw [Lib.cell_of_heap h_s1]; rfl
  have c1_s3 : w1.cell? ⟨w.heap.size, 3, none⟩ = some (.int .i64 v) := by rw [Lib.cell_of_heap h_s1]; rfl
  go_enter Tryd.func7, Tryd.ntmps7
  go_wp2_with (rw [← HX1.out])
  refine (HM.out _).mono ?_
  rintro e w2 ⟨rfl, hb⟩
  clear c1_s0 c1_s1 c1_s2 c1_s3
  have h_s2 := (hb.block (w.heap.size) (by omega)).trans h_s1
  have h_o2 := (hb.block (w.heap.size + 1) (by omega)).trans h_o1
  have h_p2 := (hb.block (w.heap.size + 1 + 1) (by omega)).trans h_p1
  have hb2 : Below w.heap.size w w2 := hb1.trans (hb.mono (by omega))
  have hz2 : w1.heap.size ≤ w2.heap.size := hb.size
  clear hb
  have c2_s3 : w2.cell? ⟨w.heap.size, 3, none⟩ = some (.int .i64 v) := by rw [Lib.cell_of_heap h_s2]; rfl
  have c2_o2 : w2.cell? ⟨w.heap.size + 1, 2, none⟩ = some (.int .i64 oe) := by rw [Lib.cell_of_heap h_o2]; rfl
  have c2_p2 : w2.cell? ⟨w.heap.size + 1 + 1, 2, none⟩ = some (.int .i64 pe) := by rw [Lib.cell_of_heap h_p2]; rfl
  have f2_o : ∀ i, w2.frozen? ⟨w.heap.size + 1, i, none⟩ = false := fun i => Lib.frozen_of_heap h_o2 i
  have f2_p : ∀ i, w2.frozen? ⟨w.heap.size + 1 + 1, i, none⟩ = false := fun i => Lib.frozen_of_heap h_p2 i
  obtain ⟨w3, HX3⟩ : ∃ W : World, Hid (W = w2.setCell ⟨w.heap.size + 1, 2, none⟩ (.int .i64 v)) := ⟨_, Lib.hid rfl⟩
  obtain ⟨h_o3, hbl, hzz, hoth⟩ := set_ex (n := w.heap.size) h_o2 (by omega) HX3.out
  have h_s3 := (hoth (w.heap.size) (by omega)).trans h_s2
  have h_p3 := (hoth (w.heap.size + 1 + 1) (by omega)).trans h_p2
  have hb3 := hb2.trans hbl
  have hz3 : w2.heap.size ≤ w3.heap.size := by omega
  clear hbl hzz hoth
  have c3_s3 : w3.cell? ⟨w.heap.size, 3, none⟩ = some (.int .i64 v) := by rw [Lib.cell_of_heap h_s3]; rfl
  have c3_p2 : w3.cell? ⟨w.heap.size + 1 + 1, 2, none⟩ = some (.int .i64 pe) := by rw [Lib.cell_of_heap h_p3]; rfl
  have f3_p : ∀ i, w3.frozen? ⟨w.heap.size + 1 + 1, i, none⟩ = false := fun i => Lib.frozen_of_heap h_p3 i
  obtain ⟨w4, HX4⟩ : ∃ W : World, Hid (W = w3.setCell ⟨w.heap.size + 1 + 1, 2, none⟩ (.int .i64 v)) := ⟨_, Lib.hid rfl⟩
  obtain ⟨h_p4, hbl, hzz, hoth⟩ := set_ex (n := w.heap.size) h_p3 (by omega) HX4.out
  have h_s4 := (hoth (w.heap.size) (by omega)).trans h_s3
  have h_o4 := (hoth (w.heap.size + 1) (by omega)).trans h_o3
  have hb4 := hb3.trans hbl
  have hz4 : w3.heap.size ≤ w4.heap.size := by omega
  clear hbl hzz hoth
  have c4_s0 : w4.cell? ⟨w.heap.size, 0, none⟩ = some (.int .i64 t) := by rw [Lib.cell_of_heap h_s4]; rfl
  have c4_s1 : w4.cell? ⟨w.heap.size, 1, none⟩ = some (.bool c) := by rw [Lib.cell_of_heap h_s4]; rfl
  have c4_s2 : w4.cell? ⟨w.heap.size, 2, none⟩ = some (.int .i64 x) := by rw [Lib.cell_of_heap h_s4]; rfl
  have c4_s3 : w4.cell? ⟨w.heap.size, 3, none⟩ = some (.int .i64 v) := by rw [Lib.cell_of_heap h_s4]; rfl
  have c4_o0 : w4.cell? ⟨w.heap.size + 1, 0, none⟩ = some (.int .i64 oi) := by rw [Lib.cell_of_heap h_o4]; rfl
  have c4_o1 : w4.cell? ⟨w.heap.size + 1, 1, none⟩ = some (.int .i64 oj) := by rw [Lib.cell_of_heap h_o4]; rfl
  have c4_o2 : w4.cell? ⟨w.heap.size + 1, 2, none⟩ = some (.int .i64 v) := by rw [Lib.cell_of_heap h_o4]; rfl
  have c4_o3 : w4.cell? ⟨w.heap.size + 1, 3, none⟩ = some (.int .i64 ok) := by rw [Lib.cell_of_heap h_o4]; rfl
  have c4_o4 : w4.cell? ⟨w.heap.size + 1, 4, none⟩ = some (.int .i64 oa) := by rw [Lib.cell_of_heap h_o4]; rfl
  go_wp2_with (first | rw [← HX3.out] | rw [← HX4.out])
  refine (H1.out _ hb4).mono ?_
  rintro e w5 ⟨V, rfl, hE, hb⟩
  clear c2_s3 c2_o2 c2_p2 f2_o f2_p c3_s3 c3_p2 f3_p c4_s0 c4_s1 c4_s2 c4_s3 c4_o0 c4_o1 c4_o2 c4_o3 c4_o4
  have h_s5 := (hb.block (w.heap.size) (by omega)).trans h_s4
  have h_o5 := (hb.block (w.heap.size + 1) (by omega)).trans h_o4
  have h_p5 := (hb.block (w.heap.size + 1 + 1) (by omega)).trans h_p4
  have hb5 : Below w.heap.size w w5 := hb4.trans (hb.mono (by omega))
  have hz5 : w4.heap.size ≤ w5.heap.size := hb.size
  clear hb
  obtain ⟨g, rfl, -, hgl, h_g5⟩ := hE.one
  simp only at h_g5
  clear hE
  obtain ⟨w6, HX6⟩ : ∃ W : World, Hid (W = w5.alloc (.cells #[.int .i64 1, .int .i64 (v + 1), .slice (some ⟨g, 0, none⟩) 1 1] 28)) := ⟨_, Lib.hid rfl⟩
  have hb : Below w5.heap.size w5 w6 := by rw [HX6.out]; exact (Below.refl _ _).alloc (Nat.le_refl _) _
  have h_A6 : w6.heap[w5.heap.size]? = some (.cells #[.int .i64 1, .int .i64 (v + 1), .slice (some ⟨g, 0, none⟩) 1 1] 28 (0, 0)) := by rw [HX6.out]; exact heap_alloc_new _ _
  have hy6 : w5.heap.size < w6.heap.size := by rw [HX6.out]; simp
  have h_s6 := (hb.block (w.heap.size) (by omega)).trans h_s5
  have h_o6 := (hb.block (w.heap.size + 1) (by omega)).trans h_o5
  have h_p6 := (hb.block (w.heap.size + 1 + 1) (by omega)).trans h_p5
  have h_g6 := (hb.block (g) (by omega)).trans h_g5
  have hb6 : Below w.heap.size w w6 := hb5.trans (hb.mono (by omega))
  have hz6 : w5.heap.size ≤ w6.heap.size := hb.size
  clear hb
  go_upto_region 6 with (rw [← HX6.out])
  go_cut [8] (fun u wx => ∃ (B h : Nat), u = .pointer (some ⟨B, 0, none⟩) ∧ Hid (wx.heap[B]? = some (.cells #[.int .i64 2, .int .i64 vb, .slice none 0 0] 28 (0, 0))) ∧ h = 0 ∧ Hid (wx.heap[w.heap.size]? = some (.cells #[.int .i64 t, .bool c, .int .i64 x, .int .i64 v] 23 (0, 0))) ∧ Hid (wx.heap[w5.heap.size]? = some (.cells #[.int .i64 1, .int .i64 (v + 1), .slice (some ⟨g, 0, none⟩) 1 1] 28 (0, 0))) ∧ Hid (wx.heap[w.heap.size + 1 + 1]? = some (.cells #[.int .i64 pi, .int .i64 pj, .int .i64 v, .int .i64 pk, .int .i64 pa] 25 (0, 0))) ∧ Hid (Below w.heap.size w wx) ∧ B < wx.heap.size ∧ w6.heap.size ≤ B)
  case first =>
    have c6_s0 : w6.cell? ⟨w.heap.size, 0, none⟩ = some (.int .i64 t) := by rw [Lib.cell_of_heap h_s6]; rfl
    have c6_s1 : w6.cell? ⟨w.heap.size, 1, none⟩ = some (.bool c) := by rw [Lib.cell_of_heap h_s6]; rfl
    have c6_s2 : w6.cell? ⟨w.heap.size, 2, none⟩ = some (.int .i64 x) := by rw [Lib.cell_of_heap h_s6]; rfl
    have c6_s3 : w6.cell? ⟨w.heap.size, 3, none⟩ = some (.int .i64 v) := by rw [Lib.cell_of_heap h_s6]; rfl
    have c6_A0 : w6.cell? ⟨w5.heap.size, 0, none⟩ = some (.int .i64 1) := by rw [Lib.cell_of_heap h_A6]; rfl
    have c6_A1 : w6.cell? ⟨w5.heap.size, 1, none⟩ = some (.int .i64 (v + 1)) := by rw [Lib.cell_of_heap h_A6]; rfl
    have c6_A2 : w6.cell? ⟨w5.heap.size, 2, none⟩ = some (.slice (some ⟨g, 0, none⟩) 1 1) := by rw [Lib.cell_of_heap h_A6]; rfl
    have c6_p0 : w6.cell? ⟨w.heap.size + 1 + 1, 0, none⟩ = some (.int .i64 pi) := by rw [Lib.cell_of_heap h_p6]; rfl
    have c6_p1 : w6.cell? ⟨w.heap.size + 1 + 1, 1, none⟩ = some (.int .i64 pj) := by rw [Lib.cell_of_heap h_p6]; rfl
    have c6_p2 : w6.cell? ⟨w.heap.size + 1 + 1, 2, none⟩ = some (.int .i64 v) := by rw [Lib.cell_of_heap h_p6]; rfl
    have c6_p3 : w6.cell? ⟨w.heap.size + 1 + 1, 3, none⟩ = some (.int .i64 pk) := by rw [Lib.cell_of_heap h_p6]; rfl
    have c6_p4 : w6.cell? ⟨w.heap.size + 1 + 1, 4, none⟩ = some (.int .i64 pa) := by rw [Lib.cell_of_heap h_p6]; rfl
    have l_s : w.heap.size < w6.heap.size := by omega
    have l1_s : w.heap.size < w6.heap.size + 1 := by omega
    have n_s0 := World.new_ne w6.drew ⟨w.heap.size, 0, none⟩ (u := .int .i64 t) c6_s0
    have n_s1 := World.new_ne w6.drew ⟨w.heap.size, 1, none⟩ (u := .bool c) c6_s1
    have n_s2 := World.new_ne w6.drew ⟨w.heap.size, 2, none⟩ (u := .int .i64 x) c6_s2
    have n_s3 := World.new_ne w6.drew ⟨w.heap.size, 3, none⟩ (u := .int .i64 v) c6_s3
    have l_A : w5.heap.size < w6.heap.size := by omega
    have l1_A : w5.heap.size < w6.heap.size + 1 := by omega
    have n_A0 := World.new_ne w6.drew ⟨w5.heap.size, 0, none⟩ (u := .int .i64 1) c6_A0
    have n_A1 := World.new_ne w6.drew ⟨w5.heap.size, 1, none⟩ (u := .int .i64 (v + 1)) c6_A1
    have n_A2 := World.new_ne w6.drew ⟨w5.heap.size, 2, none⟩ (u := .slice (some ⟨g, 0, none⟩) 1 1) c6_A2
    have l_p : w.heap.size + 1 + 1 < w6.heap.size := by omega
    have l1_p : w.heap.size + 1 + 1 < w6.heap.size + 1 := by omega
    have n_p0 := World.new_ne w6.drew ⟨w.heap.size + 1 + 1, 0, none⟩ (u := .int .i64 pi) c6_p0
    have n_p1 := World.new_ne w6.drew ⟨w.heap.size + 1 + 1, 1, none⟩ (u := .int .i64 pj) c6_p1
    have n_p2 := World.new_ne w6.drew ⟨w.heap.size + 1 + 1, 2, none⟩ (u := .int .i64 v) c6_p2
    have n_p3 := World.new_ne w6.drew ⟨w.heap.size + 1 + 1, 3, none⟩ (u := .int .i64 pk) c6_p3
    have n_p4 := World.new_ne w6.drew ⟨w.heap.size + 1 + 1, 4, none⟩ (u := .int .i64 pa) c6_p4
    have hgl1 : g < w6.heap.size := by omega
    clear HW H1 H3
    go_region_held3 (fun X => X.cell? ⟨w.heap.size, 0, none⟩ = some (.int .i64 t) ∧ X.cell? ⟨w.heap.size, 1, none⟩ = some (.bool c) ∧ X.cell? ⟨w.heap.size, 2, none⟩ = some (.int .i64 x) ∧ X.cell? ⟨w.heap.size, 3, none⟩ = some (.int .i64 v) ∧ X.cell? ⟨w5.heap.size, 0, none⟩ = some (.int .i64 1) ∧ X.cell? ⟨w5.heap.size, 1, none⟩ = some (.int .i64 (v + 1)) ∧ X.cell? ⟨w5.heap.size, 2, none⟩ = some (.slice (some ⟨g, 0, none⟩) 1 1) ∧ X.cell? ⟨w.heap.size + 1 + 1, 0, none⟩ = some (.int .i64 pi) ∧ X.cell? ⟨w.heap.size + 1 + 1, 1, none⟩ = some (.int .i64 pj) ∧ X.cell? ⟨w.heap.size + 1 + 1, 2, none⟩ = some (.int .i64 v) ∧ X.cell? ⟨w.heap.size + 1 + 1, 3, none⟩ = some (.int .i64 pk) ∧ X.cell? ⟨w.heap.size + 1 + 1, 4, none⟩ = some (.int .i64 pa)) (first | exact hS6 | exact hS5 | go_keep | (refine ⟨?_, ?_, ?_, ?_, ?_, ?_, ?_, ?_, ?_, ?_, ?_, ?_⟩ <;> (rw [far_three (by omega)]; first | exact hS6.1 | exact hS6.2.1 | exact hS6.2.2.1 | exact hS6.2.2.2.1 | exact hS6.2.2.2.2.1 | exact hS6.2.2.2.2.2.1 | exact hS6.2.2.2.2.2.2.1 | exact hS6.2.2.2.2.2.2.2.1 | exact hS6.2.2.2.2.2.2.2.2.1 | exact hS6.2.2.2.2.2.2.2.2.2.1 | exact hS6.2.2.2.2.2.2.2.2.2.2.1 | exact hS6.2.2.2.2.2.2.2.2.2.2.2))) ((first | (go_at_call 16; (refine (HT.out _ g (by first | exact h_g6 | exact (((Below.refl _ _).alloc (Nat.le_refl _) _ : Below w6.heap.size w6 (w6.alloc _)).block g hgl1).trans h_g6)).mono ?_); rintro e wd ⟨rfl, hb⟩; have hsd : w6.heap.size ≤ wd.heap.size := (by have := hb.size; (try simp at this); omega); (try have hs2 : w6.heap.size < wd.heap.size := (by have := hb.size; simp at this; omega)); have hB5 : Below w.heap.size w wd := (by first | exact hb6.drew.trans (hb.mono hb6.size) | exact (hb6.alloc hb6.size _).drew.trans (hb.mono (by have := hb6.size; simp; omega))); have hO5 : Below w6.heap.size w6 wd := (by first | exact (Below.refl _ _).drew.trans hb | exact ((Below.refl _ _).alloc (Nat.le_refl _) _).drew.trans (hb.mono (by simp))); obtain ⟨hc, hf⟩ := bcell hb; have hS5 : wd.cell? ⟨w.heap.size, 0, none⟩ = some (.int .i64 t) ∧ wd.cell? ⟨w.heap.size, 1, none⟩ = some (.bool c) ∧ wd.cell? ⟨w.heap.size, 2, none⟩ = some (.int .i64 x) ∧ wd.cell? ⟨w.heap.size, 3, none⟩ = some (.int .i64 v) ∧ wd.cell? ⟨w5.heap.size, 0, none⟩ = some (.int .i64 1) ∧ wd.cell? ⟨w5.heap.size, 1, none⟩ = some (.int .i64 (v + 1)) ∧ wd.cell? ⟨w5.heap.size, 2, none⟩ = some (.slice (some ⟨g, 0, none⟩) 1 1) ∧ wd.cell? ⟨w.heap.size + 1 + 1, 0, none⟩ = some (.int .i64 pi) ∧ wd.cell? ⟨w.heap.size + 1 + 1, 1, none⟩ = some (.int .i64 pj) ∧ wd.cell? ⟨w.heap.size + 1 + 1, 2, none⟩ = some (.int .i64 v) ∧ wd.cell? ⟨w.heap.size + 1 + 1, 3, none⟩ = some (.int .i64 pk) ∧ wd.cell? ⟨w.heap.size + 1 + 1, 4, none⟩ = some (.int .i64 pa) := ⟨(hO5.cell (p := ⟨w.heap.size, 0, none⟩) l_s).trans c6_s0, (hO5.cell (p := ⟨w.heap.size, 1, none⟩) l_s).trans c6_s1, (hO5.cell (p := ⟨w.heap.size, 2, none⟩) l_s).trans c6_s2, (hO5.cell (p := ⟨w.heap.size, 3, none⟩) l_s).trans c6_s3, (hO5.cell (p := ⟨w5.heap.size, 0, none⟩) l_A).trans c6_A0, (hO5.cell (p := ⟨w5.heap.size, 1, none⟩) l_A).trans c6_A1, (hO5.cell (p := ⟨w5.heap.size, 2, none⟩) l_A).trans c6_A2, (hO5.cell (p := ⟨w.heap.size + 1 + 1, 0, none⟩) l_p).trans c6_p0, (hO5.cell (p := ⟨w.heap.size + 1 + 1, 1, none⟩) l_p).trans c6_p1, (hO5.cell (p := ⟨w.heap.size + 1 + 1, 2, none⟩) l_p).trans c6_p2, (hO5.cell (p := ⟨w.heap.size + 1 + 1, 3, none⟩) l_p).trans c6_p3, (hO5.cell (p := ⟨w.heap.size + 1 + 1, 4, none⟩) l_p).trans c6_p4⟩) | (go_at_call 9; (refine (H2.out _ (by first | exact hB5 | exact hB5.drew | exact hB5.alloc hB5.size _)).mono ?_); rintro e we ⟨V, rfl, hE, hb'⟩; obtain rfl := hE.nil; have hse : wd.heap.size ≤ we.heap.size := (by have := hb'.size; (try simp at this); omega); (try have hs3 : w6.heap.size < we.heap.size := (by have := hb'.size; (try simp at this); omega)); have hB6 : Below w.heap.size w we := (by first | exact hB5.trans (hb'.mono hB5.size) | exact (hB5.alloc hB5.size _).trans (hb'.mono (by have := hB5.size; simp; omega))); have hO6 : Below w6.heap.size w6 we := (by first | exact hO5.trans (hb'.mono hO5.size) | exact (hO5.alloc hO5.size _).trans (hb'.mono (by have := hO5.size; simp; omega))); obtain ⟨hc', hf'⟩ := bcell hb'; have hS6 : we.cell? ⟨w.heap.size, 0, none⟩ = some (.int .i64 t) ∧ we.cell? ⟨w.heap.size, 1, none⟩ = some (.bool c) ∧ we.cell? ⟨w.heap.size, 2, none⟩ = some (.int .i64 x) ∧ we.cell? ⟨w.heap.size, 3, none⟩ = some (.int .i64 v) ∧ we.cell? ⟨w5.heap.size, 0, none⟩ = some (.int .i64 1) ∧ we.cell? ⟨w5.heap.size, 1, none⟩ = some (.int .i64 (v + 1)) ∧ we.cell? ⟨w5.heap.size, 2, none⟩ = some (.slice (some ⟨g, 0, none⟩) 1 1) ∧ we.cell? ⟨w.heap.size + 1 + 1, 0, none⟩ = some (.int .i64 pi) ∧ we.cell? ⟨w.heap.size + 1 + 1, 1, none⟩ = some (.int .i64 pj) ∧ we.cell? ⟨w.heap.size + 1 + 1, 2, none⟩ = some (.int .i64 v) ∧ we.cell? ⟨w.heap.size + 1 + 1, 3, none⟩ = some (.int .i64 pk) ∧ we.cell? ⟨w.heap.size + 1 + 1, 4, none⟩ = some (.int .i64 pa) := ⟨(hO6.cell (p := ⟨w.heap.size, 0, none⟩) l_s).trans c6_s0, (hO6.cell (p := ⟨w.heap.size, 1, none⟩) l_s).trans c6_s1, (hO6.cell (p := ⟨w.heap.size, 2, none⟩) l_s).trans c6_s2, (hO6.cell (p := ⟨w.heap.size, 3, none⟩) l_s).trans c6_s3, (hO6.cell (p := ⟨w5.heap.size, 0, none⟩) l_A).trans c6_A0, (hO6.cell (p := ⟨w5.heap.size, 1, none⟩) l_A).trans c6_A1, (hO6.cell (p := ⟨w5.heap.size, 2, none⟩) l_A).trans c6_A2, (hO6.cell (p := ⟨w.heap.size + 1 + 1, 0, none⟩) l_p).trans c6_p0, (hO6.cell (p := ⟨w.heap.size + 1 + 1, 1, none⟩) l_p).trans c6_p1, (hO6.cell (p := ⟨w.heap.size + 1 + 1, 2, none⟩) l_p).trans c6_p2, (hO6.cell (p := ⟨w.heap.size + 1 + 1, 3, none⟩) l_p).trans c6_p3, (hO6.cell (p := ⟨w.heap.size + 1 + 1, 4, none⟩) l_p).trans c6_p4⟩)))
    · have hns : w6.heap.size ≤ we.heap.size := hO6.size
      have k_s := (hO6.block _ l_s).trans h_s6
      have k_A := (hO6.block _ l_A).trans h_A6
      have k_p := (hO6.block _ l_p).trans h_p6
      have hal : Below we.heap.size we (we.alloc (.cells #[.int .i64 2, .int .i64 vb, .slice none 0 0] 28)) := (Below.refl _ _).alloc (Nat.le_refl _) _
      have K_s := Lib.hid ((hal.block _ (Nat.lt_of_lt_of_le l_s hns)).trans k_s)
      have K_A := Lib.hid ((hal.block _ (Nat.lt_of_lt_of_le l_A hns)).trans k_A)
      have K_p := Lib.hid ((hal.block _ (Nat.lt_of_lt_of_le l_p hns)).trans k_p)
      have KB := Lib.hid (hB6.alloc hB6.size (.cells #[.int .i64 2, .int .i64 vb, .slice none 0 0] 28))
      clear hc hf hb hS5 hc' hf' hb' hS6 hal
      go_wp2_with fail
      go_meet
      case rel => exact ⟨we.heap.size, 0, rfl, Lib.hid (heap_alloc_new _ _), rfl, K_s, K_A, K_p, KB, by simp, by omega⟩
    · have hns : w6.heap.size ≤ we.heap.size := hO6.size
      have k_s := (hO6.block _ l_s).trans h_s6
      have k_A := (hO6.block _ l_A).trans h_A6
      have k_p := (hO6.block _ l_p).trans h_p6
      have hz := (hb'.block wd.heap.size (by simp)).trans (heap_alloc_new _ _)
      have hlt : wd.heap.size < we.heap.size := lt_of_block hz
      obtain ⟨W9, HW9⟩ : ∃ W : World, Hid (W = ((we.setCell ⟨wd.heap.size, 0, none⟩ (.int .i64 2)).setCell ⟨wd.heap.size, 1, none⟩ (.int .i64 vb)).setCell ⟨wd.heap.size, 2, none⟩ (.slice none 0 0)) := ⟨_, Lib.hid rfl⟩
      obtain ⟨g1, g2, g3, g4⟩ := set_three (n := w.heap.size) hz (by omega) HW9.out
      have K_s := Lib.hid ((g4 _ (by omega)).trans k_s)
      have K_A := Lib.hid ((g4 _ (by omega)).trans k_A)
      have K_p := Lib.hid ((g4 _ (by omega)).trans k_p)
      have KB := Lib.hid (hB6.trans g2)
      have G1 := Lib.hid g1
      have G3 : wd.heap.size < W9.heap.size := by omega
      rw [← HW9.out]
      clear hc hf hb hS5 hc' hf' hb' hS6 hz g1 g2 g3 g4
      go_wp2_with fail
      go_meet
      case rel => exact ⟨wd.heap.size, 0, rfl, G1, rfl, K_s, K_A, K_p, KB, G3, by omega⟩
    · have hns : w6.heap.size ≤ we.heap.size := hO6.size
      have k_s := (hO6.block _ l_s).trans h_s6
      have k_A := (hO6.block _ l_A).trans h_A6
      have k_p := (hO6.block _ l_p).trans h_p6
      have hz := (hb'.block w6.heap.size hs2).trans ((hb.block w6.heap.size (by simp)).trans (heap_alloc_new _ _))
      have hlt : w6.heap.size < we.heap.size := lt_of_block hz
      obtain ⟨W9, HW9⟩ : ∃ W : World, Hid (W = ((we.setCell ⟨w6.heap.size, 0, none⟩ (.int .i64 2)).setCell ⟨w6.heap.size, 1, none⟩ (.int .i64 vb)).setCell ⟨w6.heap.size, 2, none⟩ (.slice none 0 0)) := ⟨_, Lib.hid rfl⟩
      obtain ⟨g1, g2, g3, g4⟩ := set_three (n := w.heap.size) hz (by omega) HW9.out
      have K_s := Lib.hid ((g4 _ (by omega)).trans k_s)
      have K_A := Lib.hid ((g4 _ (by omega)).trans k_A)
      have K_p := Lib.hid ((g4 _ (by omega)).trans k_p)
      have KB := Lib.hid (hB6.trans g2)
      have G1 := Lib.hid g1
      have G3 : w6.heap.size < W9.heap.size := by omega
      rw [← HW9.out]
      clear hc hf hb hS5 hc' hf' hb' hS6 hz g1 g2 g3 g4
      go_wp2_with fail
      go_meet
      case rel => exact ⟨w6.heap.size, 0, rfl, G1, rfl, K_s, K_A, K_p, KB, G3, by omega⟩
  case rest =>
  obtain ⟨B, h, rfl, h_B, hE, h_s, h_A, h_p, HBC, hBl, hBg⟩ := hcut
  generalize wc = w20 at *
  have h_s20 := h_s.out
  clear h_s
  have h_A20 := h_A.out
  clear h_A
  have h_p20 := h_p.out
  clear h_p
  have h_B20 := h_B.out
  clear h_B
  have hb20 := HBC.out
  clear HBC
  clear hE
  have c20_A0 : w20.cell? ⟨w5.heap.size, 0, none⟩ = some (.int .i64 1) := by rw [Lib.cell_of_heap h_A20]; rfl
  have c20_B0 : w20.cell? ⟨B, 0, none⟩ = some (.int .i64 2) := by rw [Lib.cell_of_heap h_B20]; rfl
  go_wp2_with fail
  go_quiet (fail)
  obtain ⟨w21, HX21⟩ : ∃ W : World, Hid (W = w20.drewN nq) := ⟨_, Lib.hid rfl⟩
  have hb : Below w20.heap.size w20 w21 := by rw [HX21.out]; exact below_drewN (Below.refl _ _) _
  rw [← HX21.out]
  clear c20_A0 c20_B0
  have h_s21 := (hb.block (w.heap.size) (by omega)).trans h_s20
  have h_A21 := (hb.block (w5.heap.size) (by omega)).trans h_A20
  have h_p21 := (hb.block (w.heap.size + 1 + 1) (by omega)).trans h_p20
  have h_B21 := (hb.block (B) (by omega)).trans h_B20
  have hb21 : Below w.heap.size w w21 := hb20.trans (hb.mono (by omega))
  have hz21 : w20.heap.size ≤ w21.heap.size := hb.size
  clear hb
  have c21_p2 : w21.cell? ⟨w.heap.size + 1 + 1, 2, none⟩ = some (.int .i64 v) := by rw [Lib.cell_of_heap h_p21]; rfl
  have f21_p : ∀ i, w21.frozen? ⟨w.heap.size + 1 + 1, i, none⟩ = false := fun i => Lib.frozen_of_heap h_p21 i
  obtain ⟨w22, HX22⟩ : ∃ W : World, Hid (W = w21.setCell ⟨w.heap.size + 1 + 1, 2, none⟩ (.int .i64 (-1))) := ⟨_, Lib.hid rfl⟩
  obtain ⟨h_p22, hbl, hzz, hoth⟩ := set_ex (n := w.heap.size) h_p21 (by omega) HX22.out
  have h_s22 := (hoth (w.heap.size) (by omega)).trans h_s21
  have h_A22 := (hoth (w5.heap.size) (by omega)).trans h_A21
  have h_B22 := (hoth (B) (by omega)).trans h_B21
  have hb22 := hb21.trans hbl
  have hz22 : w21.heap.size ≤ w22.heap.size := by omega
  clear hbl hzz hoth
  have c22_s0 : w22.cell? ⟨w.heap.size, 0, none⟩ = some (.int .i64 t) := by rw [Lib.cell_of_heap h_s22]; rfl
  have c22_s1 : w22.cell? ⟨w.heap.size, 1, none⟩ = some (.bool c) := by rw [Lib.cell_of_heap h_s22]; rfl
  have c22_s2 : w22.cell? ⟨w.heap.size, 2, none⟩ = some (.int .i64 x) := by rw [Lib.cell_of_heap h_s22]; rfl
  have c22_s3 : w22.cell? ⟨w.heap.size, 3, none⟩ = some (.int .i64 v) := by rw [Lib.cell_of_heap h_s22]; rfl
  have c22_p0 : w22.cell? ⟨w.heap.size + 1 + 1, 0, none⟩ = some (.int .i64 pi) := by rw [Lib.cell_of_heap h_p22]; rfl
  have c22_p1 : w22.cell? ⟨w.heap.size + 1 + 1, 1, none⟩ = some (.int .i64 pj) := by rw [Lib.cell_of_heap h_p22]; rfl
  have c22_p2 : w22.cell? ⟨w.heap.size + 1 + 1, 2, none⟩ = some (.int .i64 (-1)) := by rw [Lib.cell_of_heap h_p22]; rfl
  have c22_p3 : w22.cell? ⟨w.heap.size + 1 + 1, 3, none⟩ = some (.int .i64 pk) := by rw [Lib.cell_of_heap h_p22]; rfl
  have c22_p4 : w22.cell? ⟨w.heap.size + 1 + 1, 4, none⟩ = some (.int .i64 pa) := by rw [Lib.cell_of_heap h_p22]; rfl
  go_wp2_with (rw [← HX22.out])
  refine (H3.out _ hb22).mono ?_
  rintro e w23 ⟨V, rfl, hE, hb⟩
  clear c21_p2 f21_p c22_s0 c22_s1 c22_s2 c22_s3 c22_p0 c22_p1 c22_p2 c22_p3 c22_p4
  have h_s23 := (hb.block (w.heap.size) (by omega)).trans h_s22
  have h_A23 := (hb.block (w5.heap.size) (by omega)).trans h_A22
  have h_p23 := (hb.block (w.heap.size + 1 + 1) (by omega)).trans h_p22
  have h_B23 := (hb.block (B) (by omega)).trans h_B22
  have hb23 : Below w.heap.size w w23 := hb22.trans (hb.mono (by omega))
  have hz23 : w22.heap.size ≤ w23.heap.size := hb.size
  clear hb
  rcases hE with ⟨rfl, rfl⟩ | ⟨e0, g0, rfl, rfl, -, -⟩
  · obtain ⟨w24, HX24⟩ : ∃ W : World, Hid (W = w23.alloc (.cells #[.int .i64 cc, .int .i64 vc, .slice none 0 0] 28)) := ⟨_, Lib.hid rfl⟩
    have hb : Below w23.heap.size w23 w24 := by rw [HX24.out]; exact (Below.refl _ _).alloc (Nat.le_refl _) _
    have h_c24 : w24.heap[w23.heap.size]? = some (.cells #[.int .i64 cc, .int .i64 vc, .slice none 0 0] 28 (0, 0)) := by rw [HX24.out]; exact heap_alloc_new _ _
    have hy24 : w23.heap.size < w24.heap.size := by rw [HX24.out]; simp
    have h_s24 := (hb.block (w.heap.size) (by omega)).trans h_s23
    have h_A24 := (hb.block (w5.heap.size) (by omega)).trans h_A23
    have h_p24 := (hb.block (w.heap.size + 1 + 1) (by omega)).trans h_p23
    have h_B24 := (hb.block (B) (by omega)).trans h_B23
    have hb24 : Below w.heap.size w w24 := hb23.trans (hb.mono (by omega))
    have hz24 : w23.heap.size ≤ w24.heap.size := hb.size
    clear hb
    have c24_A0 : w24.cell? ⟨w5.heap.size, 0, none⟩ = some (.int .i64 1) := by rw [Lib.cell_of_heap h_A24]; rfl
    have c24_c0 : w24.cell? ⟨w23.heap.size, 0, none⟩ = some (.int .i64 cc) := by rw [Lib.cell_of_heap h_c24]; rfl
    go_wp2_with (rw [← HX24.out])
    refine (HW.out _ hb24).mono ?_
    rintro e w25 ⟨rfl, hb⟩
    clear c24_A0 c24_c0
    have h_s25 := (hb.block (w.heap.size) (by omega)).trans h_s24
    have h_A25 := (hb.block (w5.heap.size) (by omega)).trans h_A24
    have h_p25 := (hb.block (w.heap.size + 1 + 1) (by omega)).trans h_p24
    have h_B25 := (hb.block (B) (by omega)).trans h_B24
    have h_c25 := (hb.block (w23.heap.size) (by omega)).trans h_c24
    have hb25 : Below w.heap.size w w25 := hb24.trans (hb.mono (by omega))
    have hz25 : w24.heap.size ≤ w25.heap.size := hb.size
    clear hb
    go_wp2_with fail
    all_goals
      go_ret
      exact ⟨rfl, hb25⟩
  · obtain ⟨w24, HX24⟩ : ∃ W : World, Hid (W = w23.alloc (.cells #[.int .i64 cc, .int .i64 vc, .slice (some ⟨g0, 0, none⟩) 1 1] 28)) := ⟨_, Lib.hid rfl⟩
    have hb : Below w23.heap.size w23 w24 := by rw [HX24.out]; exact (Below.refl _ _).alloc (Nat.le_refl _) _
    have h_c24 : w24.heap[w23.heap.size]? = some (.cells #[.int .i64 cc, .int .i64 vc, .slice (some ⟨g0, 0, none⟩) 1 1] 28 (0, 0)) := by rw [HX24.out]; exact heap_alloc_new _ _
    have hy24 : w23.heap.size < w24.heap.size := by rw [HX24.out]; simp
    have h_s24 := (hb.block (w.heap.size) (by omega)).trans h_s23
    have h_A24 := (hb.block (w5.heap.size) (by omega)).trans h_A23
    have h_p24 := (hb.block (w.heap.size + 1 + 1) (by omega)).trans h_p23
    have h_B24 := (hb.block (B) (by omega)).trans h_B23
    have hb24 : Below w.heap.size w w24 := hb23.trans (hb.mono (by omega))
    have hz24 : w23.heap.size ≤ w24.heap.size := hb.size
    clear hb
    have c24_A0 : w24.cell? ⟨w5.heap.size, 0, none⟩ = some (.int .i64 1) := by rw [Lib.cell_of_heap h_A24]; rfl
    have c24_c0 : w24.cell? ⟨w23.heap.size, 0, none⟩ = some (.int .i64 cc) := by rw [Lib.cell_of_heap h_c24]; rfl
    go_wp2_with (rw [← HX24.out])
    refine (HW.out _ hb24).mono ?_
    rintro e w25 ⟨rfl, hb⟩
    clear c24_A0 c24_c0
    have h_s25 := (hb.block (w.heap.size) (by omega)).trans h_s24
    have h_A25 := (hb.block (w5.heap.size) (by omega)).trans h_A24
    have h_p25 := (hb.block (w.heap.size + 1 + 1) (by omega)).trans h_p24
    have h_B25 := (hb.block (B) (by omega)).trans h_B24
    have h_c25 := (hb.block (w23.heap.size) (by omega)).trans h_c24
    have hb25 : Below w.heap.size w w25 := hb24.trans (hb.mono (by omega))
    have hz25 : w24.heap.size ≤ w25.heap.size := hb.size
    clear hb
    go_wp2_with fail
    all_goals
      go_ret
      exact ⟨rfl, hb25⟩
set_option maxRecDepth 100000 in
set_option maxHeartbeats 16000000 in
theorem yes7 (t : Int) (c : Bool) (x v oi oj oe ok oa pi pj pe pk pa k1 a1 t' x' vb cc vc : Int) (c' : Bool) (evc : List Ev) (_z : Int) (w : World) (HAK : Hid (∀ X : World, Below w.heap.size w X → Asked X))
    (HM : Hid (∀ X : World, Calls Tryd.prog 15 #[.agg #[.int .i64 t, .bool c, .int .i64 x, .int .i64 v]] X (NumPost (.bool true) X)))
    (H1 : Hid (∀ X : World, Below w.heap.size w X → Calls Tryd.prog 9 #[.agg #[.int .i64 t, .bool c, .int .i64 x, .int .i64 v], .agg #[.int .i64 oi, .int .i64 oj, .int .i64 v, .int .i64 ok, .int .i64 oa]] X (DecPost ⟨1, (v + 1), [⟨k1, a1⟩]⟩ X)))
    (HT : Hid (∀ (X : World) (g : Nat), X.heap[g]? = some (.cells #[.int .i64 k1, .int .i64 a1] 32 (0, 0)) → Calls Tryd.prog 16 #[.agg #[.int .i64 t, .bool c, .int .i64 x, .int .i64 v], .agg #[.int .i64 1, .int .i64 (v + 1), .slice (some ⟨g, 0, none⟩) 1 1]] X (NumPost (.agg #[.int .i64 t', .bool c', .int .i64 x', .int .i64 (v + 1)]) X)))
    (H2 : Hid (∀ X : World, Below w.heap.size w X → Calls Tryd.prog 9 #[.agg #[.int .i64 t', .bool c', .int .i64 x', .int .i64 (v + 1)], .agg #[.int .i64 pi, .int .i64 pj, .int .i64 v, .int .i64 pk, .int .i64 pa]] X (DecPost ⟨7, vb, []⟩ X)))
    (H3 : Hid (∀ X : World, Below w.heap.size w X → Calls Tryd.prog 9 #[.agg #[.int .i64 t, .bool c, .int .i64 x, .int .i64 v], .agg #[.int .i64 pi, .int .i64 pj, .int .i64 (-1), .int .i64 pk, .int .i64 pa]] X (DecPost ⟨cc, vc, evc⟩ X))) (f4 : (cc != 2) = true) :
    Calls Tryd.prog 7 #[.agg #[.int .i64 t, .bool c, .int .i64 x, .int .i64 v], .agg #[.int .i64 oi, .int .i64 oj, .int .i64 oe, .int .i64 ok, .int .i64 oa], .agg #[.int .i64 pi, .int .i64 pj, .int .i64 pe, .int .i64 pk, .int .i64 pa]] w (fun e w' => e = .returned (.bool true) ∧ Below w.heap.size w w') := by
  have HW := Lib.hid (fun X (hX : Below w.heap.size w X) => aeWorks_any X (HAK.out X hX))
  clear HAK
  obtain ⟨w1, HX1⟩ : ∃ W : World, Hid (W = (((w.alloc (.cells #[.int .i64 t, .bool c, .int .i64 x, .int .i64 v] 23)).alloc (.cells #[.int .i64 oi, .int .i64 oj, .int .i64 oe, .int .i64 ok, .int .i64 oa] 25)).alloc (.cells #[.int .i64 pi, .int .i64 pj, .int .i64 pe, .int .i64 pk, .int .i64 pa] 25))) := ⟨_, Lib.hid rfl⟩
  obtain ⟨hz1, hb1, h_s1, h_o1, h_p1⟩ := three_blocks HX1.out
  replace hz1 : w.heap.size + 3 ≤ w1.heap.size := by omega
  have c1_s0 : w1.cell? ⟨w.heap.size, 0, none⟩ = some (.int .i64 t) := by rw [Lib.cell_of_heap h_s1]; rfl
  have c1_s1 : w1.cell? ⟨w.heap.size, 1, none⟩ = some (.bool c) := by rw [Lib.cell_of_heap h_s1]; rfl
  have c1_s2 : w1.cell? ⟨w.heap.size, 2, none⟩ = some (.int .i64 x) := by rw [Lib.cell_of_heap h_s1]; rfl
  have c1_s3 : w1.cell? ⟨w.heap.size, 3, none⟩ = some (.int .i64 v) := by rw [Lib.cell_of_heap h_s1]; rfl
  go_enter Tryd.func7, Tryd.ntmps7
  go_wp2_with (rw [← HX1.out])
  refine (HM.out _).mono ?_
  rintro e w2 ⟨rfl, hb⟩
  clear c1_s0 c1_s1 c1_s2 c1_s3
  have h_s2 := (hb.block (w.heap.size) (by omega)).trans h_s1
  have h_o2 := (hb.block (w.heap.size + 1) (by omega)).trans h_o1
  have h_p2 := (hb.block (w.heap.size + 1 + 1) (by omega)).trans h_p1
  have hb2 : Below w.heap.size w w2 := hb1.trans (hb.mono (by omega))
  have hz2 : w1.heap.size ≤ w2.heap.size := hb.size
  clear hb
  have c2_s3 : w2.cell? ⟨w.heap.size, 3, none⟩ = some (.int .i64 v) := by rw [Lib.cell_of_heap h_s2]; rfl
  have c2_o2 : w2.cell? ⟨w.heap.size + 1, 2, none⟩ = some (.int .i64 oe) := by rw [Lib.cell_of_heap h_o2]; rfl
  have c2_p2 : w2.cell? ⟨w.heap.size + 1 + 1, 2, none⟩ = some (.int .i64 pe) := by rw [Lib.cell_of_heap h_p2]; rfl
  have f2_o : ∀ i, w2.frozen? ⟨w.heap.size + 1, i, none⟩ = false := fun i => Lib.frozen_of_heap h_o2 i
  have f2_p : ∀ i, w2.frozen? ⟨w.heap.size + 1 + 1, i, none⟩ = false := fun i => Lib.frozen_of_heap h_p2 i
  obtain ⟨w3, HX3⟩ : ∃ W : World, Hid (W = w2.setCell ⟨w.heap.size + 1, 2, none⟩ (.int .i64 v)) := ⟨_, Lib.hid rfl⟩
  obtain ⟨h_o3, hbl, hzz, hoth⟩ := set_ex (n := w.heap.size) h_o2 (by omega) HX3.out
  have h_s3 := (hoth (w.heap.size) (by omega)).trans h_s2
  have h_p3 := (hoth (w.heap.size + 1 + 1) (by omega)).trans h_p2
  have hb3 := hb2.trans hbl
  have hz3 : w2.heap.size ≤ w3.heap.size := by omega
  clear hbl hzz hoth
  have c3_s3 : w3.cell? ⟨w.heap.size, 3, none⟩ = some (.int .i64 v) := by rw [Lib.cell_of_heap h_s3]; rfl
  have c3_p2 : w3.cell? ⟨w.heap.size + 1 + 1, 2, none⟩ = some (.int .i64 pe) := by rw [Lib.cell_of_heap h_p3]; rfl
  have f3_p : ∀ i, w3.frozen? ⟨w.heap.size + 1 + 1, i, none⟩ = false := fun i => Lib.frozen_of_heap h_p3 i
  obtain ⟨w4, HX4⟩ : ∃ W : World, Hid (W = w3.setCell ⟨w.heap.size + 1 + 1, 2, none⟩ (.int .i64 v)) := ⟨_, Lib.hid rfl⟩
  obtain ⟨h_p4, hbl, hzz, hoth⟩ := set_ex (n := w.heap.size) h_p3 (by omega) HX4.out
  have h_s4 := (hoth (w.heap.size) (by omega)).trans h_s3
  have h_o4 := (hoth (w.heap.size + 1) (by omega)).trans h_o3
  have hb4 := hb3.trans hbl
  have hz4 : w3.heap.size ≤ w4.heap.size := by omega
  clear hbl hzz hoth
  have c4_s0 : w4.cell? ⟨w.heap.size, 0, none⟩ = some (.int .i64 t) := by rw [Lib.cell_of_heap h_s4]; rfl
  have c4_s1 : w4.cell? ⟨w.heap.size, 1, none⟩ = some (.bool c) := by rw [Lib.cell_of_heap h_s4]; rfl
  have c4_s2 : w4.cell? ⟨w.heap.size, 2, none⟩ = some (.int .i64 x) := by rw [Lib.cell_of_heap h_s4]; rfl
  have c4_s3 : w4.cell? ⟨w.heap.size, 3, none⟩ = some (.int .i64 v) := by rw [Lib.cell_of_heap h_s4]; rfl
  have c4_o0 : w4.cell? ⟨w.heap.size + 1, 0, none⟩ = some (.int .i64 oi) := by rw [Lib.cell_of_heap h_o4]; rfl
  have c4_o1 : w4.cell? ⟨w.heap.size + 1, 1, none⟩ = some (.int .i64 oj) := by rw [Lib.cell_of_heap h_o4]; rfl
  have c4_o2 : w4.cell? ⟨w.heap.size + 1, 2, none⟩ = some (.int .i64 v) := by rw [Lib.cell_of_heap h_o4]; rfl
  have c4_o3 : w4.cell? ⟨w.heap.size + 1, 3, none⟩ = some (.int .i64 ok) := by rw [Lib.cell_of_heap h_o4]; rfl
  have c4_o4 : w4.cell? ⟨w.heap.size + 1, 4, none⟩ = some (.int .i64 oa) := by rw [Lib.cell_of_heap h_o4]; rfl
  go_wp2_with (first | rw [← HX3.out] | rw [← HX4.out])
  refine (H1.out _ hb4).mono ?_
  rintro e w5 ⟨V, rfl, hE, hb⟩
  clear c2_s3 c2_o2 c2_p2 f2_o f2_p c3_s3 c3_p2 f3_p c4_s0 c4_s1 c4_s2 c4_s3 c4_o0 c4_o1 c4_o2 c4_o3 c4_o4
  have h_s5 := (hb.block (w.heap.size) (by omega)).trans h_s4
  have h_o5 := (hb.block (w.heap.size + 1) (by omega)).trans h_o4
  have h_p5 := (hb.block (w.heap.size + 1 + 1) (by omega)).trans h_p4
  have hb5 : Below w.heap.size w w5 := hb4.trans (hb.mono (by omega))
  have hz5 : w4.heap.size ≤ w5.heap.size := hb.size
  clear hb
  obtain ⟨g, rfl, -, hgl, h_g5⟩ := hE.one
  simp only at h_g5
  clear hE
  obtain ⟨w6, HX6⟩ : ∃ W : World, Hid (W = w5.alloc (.cells #[.int .i64 1, .int .i64 (v + 1), .slice (some ⟨g, 0, none⟩) 1 1] 28)) := ⟨_, Lib.hid rfl⟩
  have hb : Below w5.heap.size w5 w6 := by rw [HX6.out]; exact (Below.refl _ _).alloc (Nat.le_refl _) _
  have h_A6 : w6.heap[w5.heap.size]? = some (.cells #[.int .i64 1, .int .i64 (v + 1), .slice (some ⟨g, 0, none⟩) 1 1] 28 (0, 0)) := by rw [HX6.out]; exact heap_alloc_new _ _
  have hy6 : w5.heap.size < w6.heap.size := by rw [HX6.out]; simp
  have h_s6 := (hb.block (w.heap.size) (by omega)).trans h_s5
  have h_o6 := (hb.block (w.heap.size + 1) (by omega)).trans h_o5
  have h_p6 := (hb.block (w.heap.size + 1 + 1) (by omega)).trans h_p5
  have h_g6 := (hb.block (g) (by omega)).trans h_g5
  have hb6 : Below w.heap.size w w6 := hb5.trans (hb.mono (by omega))
  have hz6 : w5.heap.size ≤ w6.heap.size := hb.size
  clear hb
  go_upto_region 6 with (rw [← HX6.out])
  go_cut [8] (fun u wx => ∃ (B h : Nat), u = .pointer (some ⟨B, 0, none⟩) ∧ Hid (wx.heap[B]? = some (.cells #[.int .i64 7, .int .i64 vb, .slice none 0 0] 28 (0, 0))) ∧ h = 0 ∧ Hid (wx.heap[w.heap.size]? = some (.cells #[.int .i64 t, .bool c, .int .i64 x, .int .i64 v] 23 (0, 0))) ∧ Hid (wx.heap[w5.heap.size]? = some (.cells #[.int .i64 1, .int .i64 (v + 1), .slice (some ⟨g, 0, none⟩) 1 1] 28 (0, 0))) ∧ Hid (wx.heap[w.heap.size + 1 + 1]? = some (.cells #[.int .i64 pi, .int .i64 pj, .int .i64 v, .int .i64 pk, .int .i64 pa] 25 (0, 0))) ∧ Hid (Below w.heap.size w wx) ∧ B < wx.heap.size ∧ w6.heap.size ≤ B)
  case first =>
    have c6_s0 : w6.cell? ⟨w.heap.size, 0, none⟩ = some (.int .i64 t) := by rw [Lib.cell_of_heap h_s6]; rfl
    have c6_s1 : w6.cell? ⟨w.heap.size, 1, none⟩ = some (.bool c) := by rw [Lib.cell_of_heap h_s6]; rfl
    have c6_s2 : w6.cell? ⟨w.heap.size, 2, none⟩ = some (.int .i64 x) := by rw [Lib.cell_of_heap h_s6]; rfl
    have c6_s3 : w6.cell? ⟨w.heap.size, 3, none⟩ = some (.int .i64 v) := by rw [Lib.cell_of_heap h_s6]; rfl
    have c6_A0 : w6.cell? ⟨w5.heap.size, 0, none⟩ = some (.int .i64 1) := by rw [Lib.cell_of_heap h_A6]; rfl
    have c6_A1 : w6.cell? ⟨w5.heap.size, 1, none⟩ = some (.int .i64 (v + 1)) := by rw [Lib.cell_of_heap h_A6]; rfl
    have c6_A2 : w6.cell? ⟨w5.heap.size, 2, none⟩ = some (.slice (some ⟨g, 0, none⟩) 1 1) := by rw [Lib.cell_of_heap h_A6]; rfl
    have c6_p0 : w6.cell? ⟨w.heap.size + 1 + 1, 0, none⟩ = some (.int .i64 pi) := by rw [Lib.cell_of_heap h_p6]; rfl
    have c6_p1 : w6.cell? ⟨w.heap.size + 1 + 1, 1, none⟩ = some (.int .i64 pj) := by rw [Lib.cell_of_heap h_p6]; rfl
    have c6_p2 : w6.cell? ⟨w.heap.size + 1 + 1, 2, none⟩ = some (.int .i64 v) := by rw [Lib.cell_of_heap h_p6]; rfl
    have c6_p3 : w6.cell? ⟨w.heap.size + 1 + 1, 3, none⟩ = some (.int .i64 pk) := by rw [Lib.cell_of_heap h_p6]; rfl
    have c6_p4 : w6.cell? ⟨w.heap.size + 1 + 1, 4, none⟩ = some (.int .i64 pa) := by rw [Lib.cell_of_heap h_p6]; rfl
    have l_s : w.heap.size < w6.heap.size := by omega
    have l1_s : w.heap.size < w6.heap.size + 1 := by omega
    have n_s0 := World.new_ne w6.drew ⟨w.heap.size, 0, none⟩ (u := .int .i64 t) c6_s0
    have n_s1 := World.new_ne w6.drew ⟨w.heap.size, 1, none⟩ (u := .bool c) c6_s1
    have n_s2 := World.new_ne w6.drew ⟨w.heap.size, 2, none⟩ (u := .int .i64 x) c6_s2
    have n_s3 := World.new_ne w6.drew ⟨w.heap.size, 3, none⟩ (u := .int .i64 v) c6_s3
    have l_A : w5.heap.size < w6.heap.size := by omega
    have l1_A : w5.heap.size < w6.heap.size + 1 := by omega
    have n_A0 := World.new_ne w6.drew ⟨w5.heap.size, 0, none⟩ (u := .int .i64 1) c6_A0
    have n_A1 := World.new_ne w6.drew ⟨w5.heap.size, 1, none⟩ (u := .int .i64 (v + 1)) c6_A1
    have n_A2 := World.new_ne w6.drew ⟨w5.heap.size, 2, none⟩ (u := .slice (some ⟨g, 0, none⟩) 1 1) c6_A2
    have l_p : w.heap.size + 1 + 1 < w6.heap.size := by omega
    have l1_p : w.heap.size + 1 + 1 < w6.heap.size + 1 := by omega
    have n_p0 := World.new_ne w6.drew ⟨w.heap.size + 1 + 1, 0, none⟩ (u := .int .i64 pi) c6_p0
    have n_p1 := World.new_ne w6.drew ⟨w.heap.size + 1 + 1, 1, none⟩ (u := .int .i64 pj) c6_p1
    have n_p2 := World.new_ne w6.drew ⟨w.heap.size + 1 + 1, 2, none⟩ (u := .int .i64 v) c6_p2
    have n_p3 := World.new_ne w6.drew ⟨w.heap.size + 1 + 1, 3, none⟩ (u := .int .i64 pk) c6_p3
    have n_p4 := World.new_ne w6.drew ⟨w.heap.size + 1 + 1, 4, none⟩ (u := .int .i64 pa) c6_p4
    have hgl1 : g < w6.heap.size := by omega
    clear HW H1 H3
    go_region_held3 (fun X => X.cell? ⟨w.heap.size, 0, none⟩ = some (.int .i64 t) ∧ X.cell? ⟨w.heap.size, 1, none⟩ = some (.bool c) ∧ X.cell? ⟨w.heap.size, 2, none⟩ = some (.int .i64 x) ∧ X.cell? ⟨w.heap.size, 3, none⟩ = some (.int .i64 v) ∧ X.cell? ⟨w5.heap.size, 0, none⟩ = some (.int .i64 1) ∧ X.cell? ⟨w5.heap.size, 1, none⟩ = some (.int .i64 (v + 1)) ∧ X.cell? ⟨w5.heap.size, 2, none⟩ = some (.slice (some ⟨g, 0, none⟩) 1 1) ∧ X.cell? ⟨w.heap.size + 1 + 1, 0, none⟩ = some (.int .i64 pi) ∧ X.cell? ⟨w.heap.size + 1 + 1, 1, none⟩ = some (.int .i64 pj) ∧ X.cell? ⟨w.heap.size + 1 + 1, 2, none⟩ = some (.int .i64 v) ∧ X.cell? ⟨w.heap.size + 1 + 1, 3, none⟩ = some (.int .i64 pk) ∧ X.cell? ⟨w.heap.size + 1 + 1, 4, none⟩ = some (.int .i64 pa)) (first | exact hS6 | exact hS5 | go_keep | (refine ⟨?_, ?_, ?_, ?_, ?_, ?_, ?_, ?_, ?_, ?_, ?_, ?_⟩ <;> (rw [far_three (by omega)]; first | exact hS6.1 | exact hS6.2.1 | exact hS6.2.2.1 | exact hS6.2.2.2.1 | exact hS6.2.2.2.2.1 | exact hS6.2.2.2.2.2.1 | exact hS6.2.2.2.2.2.2.1 | exact hS6.2.2.2.2.2.2.2.1 | exact hS6.2.2.2.2.2.2.2.2.1 | exact hS6.2.2.2.2.2.2.2.2.2.1 | exact hS6.2.2.2.2.2.2.2.2.2.2.1 | exact hS6.2.2.2.2.2.2.2.2.2.2.2))) ((first | (go_at_call 16; (refine (HT.out _ g (by first | exact h_g6 | exact (((Below.refl _ _).alloc (Nat.le_refl _) _ : Below w6.heap.size w6 (w6.alloc _)).block g hgl1).trans h_g6)).mono ?_); rintro e wd ⟨rfl, hb⟩; have hsd : w6.heap.size ≤ wd.heap.size := (by have := hb.size; (try simp at this); omega); (try have hs2 : w6.heap.size < wd.heap.size := (by have := hb.size; simp at this; omega)); have hB5 : Below w.heap.size w wd := (by first | exact hb6.drew.trans (hb.mono hb6.size) | exact (hb6.alloc hb6.size _).drew.trans (hb.mono (by have := hb6.size; simp; omega))); have hO5 : Below w6.heap.size w6 wd := (by first | exact (Below.refl _ _).drew.trans hb | exact ((Below.refl _ _).alloc (Nat.le_refl _) _).drew.trans (hb.mono (by simp))); obtain ⟨hc, hf⟩ := bcell hb; have hS5 : wd.cell? ⟨w.heap.size, 0, none⟩ = some (.int .i64 t) ∧ wd.cell? ⟨w.heap.size, 1, none⟩ = some (.bool c) ∧ wd.cell? ⟨w.heap.size, 2, none⟩ = some (.int .i64 x) ∧ wd.cell? ⟨w.heap.size, 3, none⟩ = some (.int .i64 v) ∧ wd.cell? ⟨w5.heap.size, 0, none⟩ = some (.int .i64 1) ∧ wd.cell? ⟨w5.heap.size, 1, none⟩ = some (.int .i64 (v + 1)) ∧ wd.cell? ⟨w5.heap.size, 2, none⟩ = some (.slice (some ⟨g, 0, none⟩) 1 1) ∧ wd.cell? ⟨w.heap.size + 1 + 1, 0, none⟩ = some (.int .i64 pi) ∧ wd.cell? ⟨w.heap.size + 1 + 1, 1, none⟩ = some (.int .i64 pj) ∧ wd.cell? ⟨w.heap.size + 1 + 1, 2, none⟩ = some (.int .i64 v) ∧ wd.cell? ⟨w.heap.size + 1 + 1, 3, none⟩ = some (.int .i64 pk) ∧ wd.cell? ⟨w.heap.size + 1 + 1, 4, none⟩ = some (.int .i64 pa) := ⟨(hO5.cell (p := ⟨w.heap.size, 0, none⟩) l_s).trans c6_s0, (hO5.cell (p := ⟨w.heap.size, 1, none⟩) l_s).trans c6_s1, (hO5.cell (p := ⟨w.heap.size, 2, none⟩) l_s).trans c6_s2, (hO5.cell (p := ⟨w.heap.size, 3, none⟩) l_s).trans c6_s3, (hO5.cell (p := ⟨w5.heap.size, 0, none⟩) l_A).trans c6_A0, (hO5.cell (p := ⟨w5.heap.size, 1, none⟩) l_A).trans c6_A1, (hO5.cell (p := ⟨w5.heap.size, 2, none⟩) l_A).trans c6_A2, (hO5.cell (p := ⟨w.heap.size + 1 + 1, 0, none⟩) l_p).trans c6_p0, (hO5.cell (p := ⟨w.heap.size + 1 + 1, 1, none⟩) l_p).trans c6_p1, (hO5.cell (p := ⟨w.heap.size + 1 + 1, 2, none⟩) l_p).trans c6_p2, (hO5.cell (p := ⟨w.heap.size + 1 + 1, 3, none⟩) l_p).trans c6_p3, (hO5.cell (p := ⟨w.heap.size + 1 + 1, 4, none⟩) l_p).trans c6_p4⟩) | (go_at_call 9; (refine (H2.out _ (by first | exact hB5 | exact hB5.drew | exact hB5.alloc hB5.size _)).mono ?_); rintro e we ⟨V, rfl, hE, hb'⟩; obtain rfl := hE.nil; have hse : wd.heap.size ≤ we.heap.size := (by have := hb'.size; (try simp at this); omega); (try have hs3 : w6.heap.size < we.heap.size := (by have := hb'.size; (try simp at this); omega)); have hB6 : Below w.heap.size w we := (by first | exact hB5.trans (hb'.mono hB5.size) | exact (hB5.alloc hB5.size _).trans (hb'.mono (by have := hB5.size; simp; omega))); have hO6 : Below w6.heap.size w6 we := (by first | exact hO5.trans (hb'.mono hO5.size) | exact (hO5.alloc hO5.size _).trans (hb'.mono (by have := hO5.size; simp; omega))); obtain ⟨hc', hf'⟩ := bcell hb'; have hS6 : we.cell? ⟨w.heap.size, 0, none⟩ = some (.int .i64 t) ∧ we.cell? ⟨w.heap.size, 1, none⟩ = some (.bool c) ∧ we.cell? ⟨w.heap.size, 2, none⟩ = some (.int .i64 x) ∧ we.cell? ⟨w.heap.size, 3, none⟩ = some (.int .i64 v) ∧ we.cell? ⟨w5.heap.size, 0, none⟩ = some (.int .i64 1) ∧ we.cell? ⟨w5.heap.size, 1, none⟩ = some (.int .i64 (v + 1)) ∧ we.cell? ⟨w5.heap.size, 2, none⟩ = some (.slice (some ⟨g, 0, none⟩) 1 1) ∧ we.cell? ⟨w.heap.size + 1 + 1, 0, none⟩ = some (.int .i64 pi) ∧ we.cell? ⟨w.heap.size + 1 + 1, 1, none⟩ = some (.int .i64 pj) ∧ we.cell? ⟨w.heap.size + 1 + 1, 2, none⟩ = some (.int .i64 v) ∧ we.cell? ⟨w.heap.size + 1 + 1, 3, none⟩ = some (.int .i64 pk) ∧ we.cell? ⟨w.heap.size + 1 + 1, 4, none⟩ = some (.int .i64 pa) := ⟨(hO6.cell (p := ⟨w.heap.size, 0, none⟩) l_s).trans c6_s0, (hO6.cell (p := ⟨w.heap.size, 1, none⟩) l_s).trans c6_s1, (hO6.cell (p := ⟨w.heap.size, 2, none⟩) l_s).trans c6_s2, (hO6.cell (p := ⟨w.heap.size, 3, none⟩) l_s).trans c6_s3, (hO6.cell (p := ⟨w5.heap.size, 0, none⟩) l_A).trans c6_A0, (hO6.cell (p := ⟨w5.heap.size, 1, none⟩) l_A).trans c6_A1, (hO6.cell (p := ⟨w5.heap.size, 2, none⟩) l_A).trans c6_A2, (hO6.cell (p := ⟨w.heap.size + 1 + 1, 0, none⟩) l_p).trans c6_p0, (hO6.cell (p := ⟨w.heap.size + 1 + 1, 1, none⟩) l_p).trans c6_p1, (hO6.cell (p := ⟨w.heap.size + 1 + 1, 2, none⟩) l_p).trans c6_p2, (hO6.cell (p := ⟨w.heap.size + 1 + 1, 3, none⟩) l_p).trans c6_p3, (hO6.cell (p := ⟨w.heap.size + 1 + 1, 4, none⟩) l_p).trans c6_p4⟩)))
    · have hns : w6.heap.size ≤ we.heap.size := hO6.size
      have k_s := (hO6.block _ l_s).trans h_s6
      have k_A := (hO6.block _ l_A).trans h_A6
      have k_p := (hO6.block _ l_p).trans h_p6
      have hal : Below we.heap.size we (we.alloc (.cells #[.int .i64 7, .int .i64 vb, .slice none 0 0] 28)) := (Below.refl _ _).alloc (Nat.le_refl _) _
      have K_s := Lib.hid ((hal.block _ (Nat.lt_of_lt_of_le l_s hns)).trans k_s)
      have K_A := Lib.hid ((hal.block _ (Nat.lt_of_lt_of_le l_A hns)).trans k_A)
      have K_p := Lib.hid ((hal.block _ (Nat.lt_of_lt_of_le l_p hns)).trans k_p)
      have KB := Lib.hid (hB6.alloc hB6.size (.cells #[.int .i64 7, .int .i64 vb, .slice none 0 0] 28))
      clear hc hf hb hS5 hc' hf' hb' hS6 hal
      go_wp2_with fail
      go_meet
      case rel => exact ⟨we.heap.size, 0, rfl, Lib.hid (heap_alloc_new _ _), rfl, K_s, K_A, K_p, KB, by simp, by omega⟩
    · have hns : w6.heap.size ≤ we.heap.size := hO6.size
      have k_s := (hO6.block _ l_s).trans h_s6
      have k_A := (hO6.block _ l_A).trans h_A6
      have k_p := (hO6.block _ l_p).trans h_p6
      have hz := (hb'.block wd.heap.size (by simp)).trans (heap_alloc_new _ _)
      have hlt : wd.heap.size < we.heap.size := lt_of_block hz
      obtain ⟨W9, HW9⟩ : ∃ W : World, Hid (W = ((we.setCell ⟨wd.heap.size, 0, none⟩ (.int .i64 7)).setCell ⟨wd.heap.size, 1, none⟩ (.int .i64 vb)).setCell ⟨wd.heap.size, 2, none⟩ (.slice none 0 0)) := ⟨_, Lib.hid rfl⟩
      obtain ⟨g1, g2, g3, g4⟩ := set_three (n := w.heap.size) hz (by omega) HW9.out
      have K_s := Lib.hid ((g4 _ (by omega)).trans k_s)
      have K_A := Lib.hid ((g4 _ (by omega)).trans k_A)
      have K_p := Lib.hid ((g4 _ (by omega)).trans k_p)
      have KB := Lib.hid (hB6.trans g2)
      have G1 := Lib.hid g1
      have G3 : wd.heap.size < W9.heap.size := by omega
      rw [← HW9.out]
      clear hc hf hb hS5 hc' hf' hb' hS6 hz g1 g2 g3 g4
      go_wp2_with fail
      go_meet
      case rel => exact ⟨wd.heap.size, 0, rfl, G1, rfl, K_s, K_A, K_p, KB, G3, by omega⟩
    · have hns : w6.heap.size ≤ we.heap.size := hO6.size
      have k_s := (hO6.block _ l_s).trans h_s6
      have k_A := (hO6.block _ l_A).trans h_A6
      have k_p := (hO6.block _ l_p).trans h_p6
      have hz := (hb'.block w6.heap.size hs2).trans ((hb.block w6.heap.size (by simp)).trans (heap_alloc_new _ _))
      have hlt : w6.heap.size < we.heap.size := lt_of_block hz
      obtain ⟨W9, HW9⟩ : ∃ W : World, Hid (W = ((we.setCell ⟨w6.heap.size, 0, none⟩ (.int .i64 7)).setCell ⟨w6.heap.size, 1, none⟩ (.int .i64 vb)).setCell ⟨w6.heap.size, 2, none⟩ (.slice none 0 0)) := ⟨_, Lib.hid rfl⟩
      obtain ⟨g1, g2, g3, g4⟩ := set_three (n := w.heap.size) hz (by omega) HW9.out
      have K_s := Lib.hid ((g4 _ (by omega)).trans k_s)
      have K_A := Lib.hid ((g4 _ (by omega)).trans k_A)
      have K_p := Lib.hid ((g4 _ (by omega)).trans k_p)
      have KB := Lib.hid (hB6.trans g2)
      have G1 := Lib.hid g1
      have G3 : w6.heap.size < W9.heap.size := by omega
      rw [← HW9.out]
      clear hc hf hb hS5 hc' hf' hb' hS6 hz g1 g2 g3 g4
      go_wp2_with fail
      go_meet
      case rel => exact ⟨w6.heap.size, 0, rfl, G1, rfl, K_s, K_A, K_p, KB, G3, by omega⟩
  case rest =>
  obtain ⟨B, h, rfl, h_B, hE, h_s, h_A, h_p, HBC, hBl, hBg⟩ := hcut
  generalize wc = w20 at *
  have h_s20 := h_s.out
  clear h_s
  have h_A20 := h_A.out
  clear h_A
  have h_p20 := h_p.out
  clear h_p
  have h_B20 := h_B.out
  clear h_B
  have hb20 := HBC.out
  clear HBC
  clear hE
  have c20_A0 : w20.cell? ⟨w5.heap.size, 0, none⟩ = some (.int .i64 1) := by rw [Lib.cell_of_heap h_A20]; rfl
  have c20_B0 : w20.cell? ⟨B, 0, none⟩ = some (.int .i64 7) := by rw [Lib.cell_of_heap h_B20]; rfl
  go_wp2_with fail
  go_quiet (fail)
  obtain ⟨w21, HX21⟩ : ∃ W : World, Hid (W = w20.drewN nq) := ⟨_, Lib.hid rfl⟩
  have hb : Below w20.heap.size w20 w21 := by rw [HX21.out]; exact below_drewN (Below.refl _ _) _
  rw [← HX21.out]
  clear c20_A0 c20_B0
  have h_s21 := (hb.block (w.heap.size) (by omega)).trans h_s20
  have h_A21 := (hb.block (w5.heap.size) (by omega)).trans h_A20
  have h_p21 := (hb.block (w.heap.size + 1 + 1) (by omega)).trans h_p20
  have h_B21 := (hb.block (B) (by omega)).trans h_B20
  have hb21 : Below w.heap.size w w21 := hb20.trans (hb.mono (by omega))
  have hz21 : w20.heap.size ≤ w21.heap.size := hb.size
  clear hb
  have c21_p2 : w21.cell? ⟨w.heap.size + 1 + 1, 2, none⟩ = some (.int .i64 v) := by rw [Lib.cell_of_heap h_p21]; rfl
  have f21_p : ∀ i, w21.frozen? ⟨w.heap.size + 1 + 1, i, none⟩ = false := fun i => Lib.frozen_of_heap h_p21 i
  obtain ⟨w22, HX22⟩ : ∃ W : World, Hid (W = w21.setCell ⟨w.heap.size + 1 + 1, 2, none⟩ (.int .i64 (-1))) := ⟨_, Lib.hid rfl⟩
  obtain ⟨h_p22, hbl, hzz, hoth⟩ := set_ex (n := w.heap.size) h_p21 (by omega) HX22.out
  have h_s22 := (hoth (w.heap.size) (by omega)).trans h_s21
  have h_A22 := (hoth (w5.heap.size) (by omega)).trans h_A21
  have h_B22 := (hoth (B) (by omega)).trans h_B21
  have hb22 := hb21.trans hbl
  have hz22 : w21.heap.size ≤ w22.heap.size := by omega
  clear hbl hzz hoth
  have c22_s0 : w22.cell? ⟨w.heap.size, 0, none⟩ = some (.int .i64 t) := by rw [Lib.cell_of_heap h_s22]; rfl
  have c22_s1 : w22.cell? ⟨w.heap.size, 1, none⟩ = some (.bool c) := by rw [Lib.cell_of_heap h_s22]; rfl
  have c22_s2 : w22.cell? ⟨w.heap.size, 2, none⟩ = some (.int .i64 x) := by rw [Lib.cell_of_heap h_s22]; rfl
  have c22_s3 : w22.cell? ⟨w.heap.size, 3, none⟩ = some (.int .i64 v) := by rw [Lib.cell_of_heap h_s22]; rfl
  have c22_p0 : w22.cell? ⟨w.heap.size + 1 + 1, 0, none⟩ = some (.int .i64 pi) := by rw [Lib.cell_of_heap h_p22]; rfl
  have c22_p1 : w22.cell? ⟨w.heap.size + 1 + 1, 1, none⟩ = some (.int .i64 pj) := by rw [Lib.cell_of_heap h_p22]; rfl
  have c22_p2 : w22.cell? ⟨w.heap.size + 1 + 1, 2, none⟩ = some (.int .i64 (-1)) := by rw [Lib.cell_of_heap h_p22]; rfl
  have c22_p3 : w22.cell? ⟨w.heap.size + 1 + 1, 3, none⟩ = some (.int .i64 pk) := by rw [Lib.cell_of_heap h_p22]; rfl
  have c22_p4 : w22.cell? ⟨w.heap.size + 1 + 1, 4, none⟩ = some (.int .i64 pa) := by rw [Lib.cell_of_heap h_p22]; rfl
  go_wp2_with (rw [← HX22.out])
  refine (H3.out _ hb22).mono ?_
  rintro e w23 ⟨V, rfl, hE, hb⟩
  clear c21_p2 f21_p c22_s0 c22_s1 c22_s2 c22_s3 c22_p0 c22_p1 c22_p2 c22_p3 c22_p4
  have h_s23 := (hb.block (w.heap.size) (by omega)).trans h_s22
  have h_A23 := (hb.block (w5.heap.size) (by omega)).trans h_A22
  have h_p23 := (hb.block (w.heap.size + 1 + 1) (by omega)).trans h_p22
  have h_B23 := (hb.block (B) (by omega)).trans h_B22
  have hb23 : Below w.heap.size w w23 := hb22.trans (hb.mono (by omega))
  have hz23 : w22.heap.size ≤ w23.heap.size := hb.size
  clear hb
  rcases hE with ⟨rfl, rfl⟩ | ⟨e0, g0, rfl, rfl, -, -⟩
  · obtain ⟨w24, HX24⟩ : ∃ W : World, Hid (W = w23.alloc (.cells #[.int .i64 cc, .int .i64 vc, .slice none 0 0] 28)) := ⟨_, Lib.hid rfl⟩
    have hb : Below w23.heap.size w23 w24 := by rw [HX24.out]; exact (Below.refl _ _).alloc (Nat.le_refl _) _
    have h_c24 : w24.heap[w23.heap.size]? = some (.cells #[.int .i64 cc, .int .i64 vc, .slice none 0 0] 28 (0, 0)) := by rw [HX24.out]; exact heap_alloc_new _ _
    have hy24 : w23.heap.size < w24.heap.size := by rw [HX24.out]; simp
    have h_s24 := (hb.block (w.heap.size) (by omega)).trans h_s23
    have h_A24 := (hb.block (w5.heap.size) (by omega)).trans h_A23
    have h_p24 := (hb.block (w.heap.size + 1 + 1) (by omega)).trans h_p23
    have h_B24 := (hb.block (B) (by omega)).trans h_B23
    have hb24 : Below w.heap.size w w24 := hb23.trans (hb.mono (by omega))
    have hz24 : w23.heap.size ≤ w24.heap.size := hb.size
    clear hb
    have c24_A0 : w24.cell? ⟨w5.heap.size, 0, none⟩ = some (.int .i64 1) := by rw [Lib.cell_of_heap h_A24]; rfl
    have c24_c0 : w24.cell? ⟨w23.heap.size, 0, none⟩ = some (.int .i64 cc) := by rw [Lib.cell_of_heap h_c24]; rfl
    go_wp2_with (rw [← HX24.out])
    refine (HW.out _ hb24).mono ?_
    rintro e w25 ⟨rfl, hb⟩
    clear c24_A0 c24_c0
    have h_s25 := (hb.block (w.heap.size) (by omega)).trans h_s24
    have h_A25 := (hb.block (w5.heap.size) (by omega)).trans h_A24
    have h_p25 := (hb.block (w.heap.size + 1 + 1) (by omega)).trans h_p24
    have h_B25 := (hb.block (B) (by omega)).trans h_B24
    have h_c25 := (hb.block (w23.heap.size) (by omega)).trans h_c24
    have hb25 : Below w.heap.size w w25 := hb24.trans (hb.mono (by omega))
    have hz25 : w24.heap.size ≤ w25.heap.size := hb.size
    clear hb
    go_wp2_with fail
    all_goals
      go_ret
      exact ⟨rfl, hb25⟩
  · obtain ⟨w24, HX24⟩ : ∃ W : World, Hid (W = w23.alloc (.cells #[.int .i64 cc, .int .i64 vc, .slice (some ⟨g0, 0, none⟩) 1 1] 28)) := ⟨_, Lib.hid rfl⟩
    have hb : Below w23.heap.size w23 w24 := by rw [HX24.out]; exact (Below.refl _ _).alloc (Nat.le_refl _) _
    have h_c24 : w24.heap[w23.heap.size]? = some (.cells #[.int .i64 cc, .int .i64 vc, .slice (some ⟨g0, 0, none⟩) 1 1] 28 (0, 0)) := by rw [HX24.out]; exact heap_alloc_new _ _
    have hy24 : w23.heap.size < w24.heap.size := by rw [HX24.out]; simp
    have h_s24 := (hb.block (w.heap.size) (by omega)).trans h_s23
    have h_A24 := (hb.block (w5.heap.size) (by omega)).trans h_A23
    have h_p24 := (hb.block (w.heap.size + 1 + 1) (by omega)).trans h_p23
    have h_B24 := (hb.block (B) (by omega)).trans h_B23
    have hb24 : Below w.heap.size w w24 := hb23.trans (hb.mono (by omega))
    have hz24 : w23.heap.size ≤ w24.heap.size := hb.size
    clear hb
    have c24_A0 : w24.cell? ⟨w5.heap.size, 0, none⟩ = some (.int .i64 1) := by rw [Lib.cell_of_heap h_A24]; rfl
    have c24_c0 : w24.cell? ⟨w23.heap.size, 0, none⟩ = some (.int .i64 cc) := by rw [Lib.cell_of_heap h_c24]; rfl
    go_wp2_with (rw [← HX24.out])
    refine (HW.out _ hb24).mono ?_
    rintro e w25 ⟨rfl, hb⟩
    clear c24_A0 c24_c0
    have h_s25 := (hb.block (w.heap.size) (by omega)).trans h_s24
    have h_A25 := (hb.block (w5.heap.size) (by omega)).trans h_A24
    have h_p25 := (hb.block (w.heap.size + 1 + 1) (by omega)).trans h_p24
    have h_B25 := (hb.block (B) (by omega)).trans h_B24
    have h_c25 := (hb.block (w23.heap.size) (by omega)).trans h_c24
    have hb25 : Below w.heap.size w w25 := hb24.trans (hb.mono (by omega))
    have hz25 : w24.heap.size ≤ w25.heap.size := hb.size
    clear hb
    go_wp2_with fail
    all_goals
      go_ret
      exact ⟨rfl, hb25⟩
set_option maxRecDepth 100000 in
set_option maxHeartbeats 16000000 in
theorem no_nil (t : Int) (c : Bool) (x v oi oj oe ok oa pi pj pe pk pa ca cb vb cc vc : Int) (evc : List Ev) (_z : Int) (w : World) (HAK : Hid (∀ X : World, Below w.heap.size w X → Asked X))
    (HM : Hid (∀ X : World, Calls Tryd.prog 15 #[.agg #[.int .i64 t, .bool c, .int .i64 x, .int .i64 v]] X (NumPost (.bool true) X)))
    (H1 : Hid (∀ X : World, Below w.heap.size w X → Calls Tryd.prog 9 #[.agg #[.int .i64 t, .bool c, .int .i64 x, .int .i64 v], .agg #[.int .i64 oi, .int .i64 oj, .int .i64 v, .int .i64 ok, .int .i64 oa]] X (DecPost ⟨ca, v, []⟩ X)))
    (HT : Hid (∀ X : World, Calls Tryd.prog 16 #[.agg #[.int .i64 t, .bool c, .int .i64 x, .int .i64 v], .agg #[.int .i64 ca, .int .i64 v, .slice none 0 0]] X (NumPost (.agg #[.int .i64 t, .bool c, .int .i64 x, .int .i64 v]) X)))
    (H2 : Hid (∀ X : World, Below w.heap.size w X → Calls Tryd.prog 9 #[.agg #[.int .i64 t, .bool c, .int .i64 x, .int .i64 v], .agg #[.int .i64 pi, .int .i64 pj, .int .i64 v, .int .i64 pk, .int .i64 pa]] X (DecPost ⟨cb, vb, []⟩ X)))
    (H3 : Hid (∀ X : World, Below w.heap.size w X → Calls Tryd.prog 9 #[.agg #[.int .i64 t, .bool c, .int .i64 x, .int .i64 v], .agg #[.int .i64 pi, .int .i64 pj, .int .i64 (-1), .int .i64 pk, .int .i64 pa]] X (DecPost ⟨cc, vc, evc⟩ X))) (f1 : (ca == 1) = false) (f2 : (ca != 1) = true) (f3 : (ca != 2) = true) (f4 : (cc != 2) = true) :
    Calls Tryd.prog 7 #[.agg #[.int .i64 t, .bool c, .int .i64 x, .int .i64 v], .agg #[.int .i64 oi, .int .i64 oj, .int .i64 oe, .int .i64 ok, .int .i64 oa], .agg #[.int .i64 pi, .int .i64 pj, .int .i64 pe, .int .i64 pk, .int .i64 pa]] w (fun e w' => e = .returned (.bool true) ∧ Below w.heap.size w w') := by
  have HW := Lib.hid (fun X (hX : Below w.heap.size w X) => aeWorks_any X (HAK.out X hX))
  clear HAK
  obtain ⟨w1, HX1⟩ : ∃ W : World, Hid (W = (((w.alloc (.cells #[.int .i64 t, .bool c, .int .i64 x, .int .i64 v] 23)).alloc (.cells #[.int .i64 oi, .int .i64 oj, .int .i64 oe, .int .i64 ok, .int .i64 oa] 25)).alloc (.cells #[.int .i64 pi, .int .i64 pj, .int .i64 pe, .int .i64 pk, .int .i64 pa] 25))) := ⟨_, Lib.hid rfl⟩
  obtain ⟨hz1, hb1, h_s1, h_o1, h_p1⟩ := three_blocks HX1.out
  replace hz1 : w.heap.size + 3 ≤ w1.heap.size := by omega
  have c1_s0 : w1.cell? ⟨w.heap.size, 0, none⟩ = some (.int .i64 t) := by rw [Lib.cell_of_heap h_s1]; rfl
  have c1_s1 : w1.cell? ⟨w.heap.size, 1, none⟩ = some (.bool c) := by rw [Lib.cell_of_heap h_s1]; rfl
  have c1_s2 : w1.cell? ⟨w.heap.size, 2, none⟩ = some (.int .i64 x) := by rw [Lib.cell_of_heap h_s1]; rfl
  have c1_s3 : w1.cell? ⟨w.heap.size, 3, none⟩ = some (.int .i64 v) := by rw [Lib.cell_of_heap h_s1]; rfl
  go_enter Tryd.func7, Tryd.ntmps7
  go_wp2_with (rw [← HX1.out])
  refine (HM.out _).mono ?_
  rintro e w2 ⟨rfl, hb⟩
  clear c1_s0 c1_s1 c1_s2 c1_s3
  have h_s2 := (hb.block (w.heap.size) (by omega)).trans h_s1
  have h_o2 := (hb.block (w.heap.size + 1) (by omega)).trans h_o1
  have h_p2 := (hb.block (w.heap.size + 1 + 1) (by omega)).trans h_p1
  have hb2 : Below w.heap.size w w2 := hb1.trans (hb.mono (by omega))
  have hz2 : w1.heap.size ≤ w2.heap.size := hb.size
  clear hb
  have HS := Lib.hid (fun X => same_nil cb vb X)
  have c2_s3 : w2.cell? ⟨w.heap.size, 3, none⟩ = some (.int .i64 v) := by rw [Lib.cell_of_heap h_s2]; rfl
  have c2_o2 : w2.cell? ⟨w.heap.size + 1, 2, none⟩ = some (.int .i64 oe) := by rw [Lib.cell_of_heap h_o2]; rfl
  have c2_p2 : w2.cell? ⟨w.heap.size + 1 + 1, 2, none⟩ = some (.int .i64 pe) := by rw [Lib.cell_of_heap h_p2]; rfl
  have f2_o : ∀ i, w2.frozen? ⟨w.heap.size + 1, i, none⟩ = false := fun i => Lib.frozen_of_heap h_o2 i
  have f2_p : ∀ i, w2.frozen? ⟨w.heap.size + 1 + 1, i, none⟩ = false := fun i => Lib.frozen_of_heap h_p2 i
  obtain ⟨w3, HX3⟩ : ∃ W : World, Hid (W = w2.setCell ⟨w.heap.size + 1, 2, none⟩ (.int .i64 v)) := ⟨_, Lib.hid rfl⟩
  obtain ⟨h_o3, hbl, hzz, hoth⟩ := set_ex (n := w.heap.size) h_o2 (by omega) HX3.out
  have h_s3 := (hoth (w.heap.size) (by omega)).trans h_s2
  have h_p3 := (hoth (w.heap.size + 1 + 1) (by omega)).trans h_p2
  have hb3 := hb2.trans hbl
  have hz3 : w2.heap.size ≤ w3.heap.size := by omega
  clear hbl hzz hoth
  have c3_s3 : w3.cell? ⟨w.heap.size, 3, none⟩ = some (.int .i64 v) := by rw [Lib.cell_of_heap h_s3]; rfl
  have c3_p2 : w3.cell? ⟨w.heap.size + 1 + 1, 2, none⟩ = some (.int .i64 pe) := by rw [Lib.cell_of_heap h_p3]; rfl
  have f3_p : ∀ i, w3.frozen? ⟨w.heap.size + 1 + 1, i, none⟩ = false := fun i => Lib.frozen_of_heap h_p3 i
  obtain ⟨w4, HX4⟩ : ∃ W : World, Hid (W = w3.setCell ⟨w.heap.size + 1 + 1, 2, none⟩ (.int .i64 v)) := ⟨_, Lib.hid rfl⟩
  obtain ⟨h_p4, hbl, hzz, hoth⟩ := set_ex (n := w.heap.size) h_p3 (by omega) HX4.out
  have h_s4 := (hoth (w.heap.size) (by omega)).trans h_s3
  have h_o4 := (hoth (w.heap.size + 1) (by omega)).trans h_o3
  have hb4 := hb3.trans hbl
  have hz4 : w3.heap.size ≤ w4.heap.size := by omega
  clear hbl hzz hoth
  have c4_s0 : w4.cell? ⟨w.heap.size, 0, none⟩ = some (.int .i64 t) := by rw [Lib.cell_of_heap h_s4]; rfl
  have c4_s1 : w4.cell? ⟨w.heap.size, 1, none⟩ = some (.bool c) := by rw [Lib.cell_of_heap h_s4]; rfl
  have c4_s2 : w4.cell? ⟨w.heap.size, 2, none⟩ = some (.int .i64 x) := by rw [Lib.cell_of_heap h_s4]; rfl
  have c4_s3 : w4.cell? ⟨w.heap.size, 3, none⟩ = some (.int .i64 v) := by rw [Lib.cell_of_heap h_s4]; rfl
  have c4_o0 : w4.cell? ⟨w.heap.size + 1, 0, none⟩ = some (.int .i64 oi) := by rw [Lib.cell_of_heap h_o4]; rfl
  have c4_o1 : w4.cell? ⟨w.heap.size + 1, 1, none⟩ = some (.int .i64 oj) := by rw [Lib.cell_of_heap h_o4]; rfl
  have c4_o2 : w4.cell? ⟨w.heap.size + 1, 2, none⟩ = some (.int .i64 v) := by rw [Lib.cell_of_heap h_o4]; rfl
  have c4_o3 : w4.cell? ⟨w.heap.size + 1, 3, none⟩ = some (.int .i64 ok) := by rw [Lib.cell_of_heap h_o4]; rfl
  have c4_o4 : w4.cell? ⟨w.heap.size + 1, 4, none⟩ = some (.int .i64 oa) := by rw [Lib.cell_of_heap h_o4]; rfl
  go_wp2_with (first | rw [← HX3.out] | rw [← HX4.out])
  refine (H1.out _ hb4).mono ?_
  rintro e w5 ⟨V, rfl, hE, hb⟩
  clear c2_s3 c2_o2 c2_p2 f2_o f2_p c3_s3 c3_p2 f3_p c4_s0 c4_s1 c4_s2 c4_s3 c4_o0 c4_o1 c4_o2 c4_o3 c4_o4
  have h_s5 := (hb.block (w.heap.size) (by omega)).trans h_s4
  have h_o5 := (hb.block (w.heap.size + 1) (by omega)).trans h_o4
  have h_p5 := (hb.block (w.heap.size + 1 + 1) (by omega)).trans h_p4
  have hb5 : Below w.heap.size w w5 := hb4.trans (hb.mono (by omega))
  have hz5 : w4.heap.size ≤ w5.heap.size := hb.size
  clear hb
  obtain rfl := hE.nil
  clear hE
  obtain ⟨w6, HX6⟩ : ∃ W : World, Hid (W = w5.alloc (.cells #[.int .i64 ca, .int .i64 v, .slice none 0 0] 28)) := ⟨_, Lib.hid rfl⟩
  have hb : Below w5.heap.size w5 w6 := by rw [HX6.out]; exact (Below.refl _ _).alloc (Nat.le_refl _) _
  have h_A6 : w6.heap[w5.heap.size]? = some (.cells #[.int .i64 ca, .int .i64 v, .slice none 0 0] 28 (0, 0)) := by rw [HX6.out]; exact heap_alloc_new _ _
  have hy6 : w5.heap.size < w6.heap.size := by rw [HX6.out]; simp
  have h_s6 := (hb.block (w.heap.size) (by omega)).trans h_s5
  have h_o6 := (hb.block (w.heap.size + 1) (by omega)).trans h_o5
  have h_p6 := (hb.block (w.heap.size + 1 + 1) (by omega)).trans h_p5
  have hb6 : Below w.heap.size w w6 := hb5.trans (hb.mono (by omega))
  have hz6 : w5.heap.size ≤ w6.heap.size := hb.size
  clear hb
  go_upto_region 6 with (rw [← HX6.out])
  go_cut [8] (fun u wx => ∃ (B h : Nat), u = .pointer (some ⟨B, 0, none⟩) ∧ Hid (wx.heap[B]? = some (.cells #[.int .i64 cb, .int .i64 vb, .slice none 0 0] 28 (0, 0))) ∧ h = 0 ∧ Hid (wx.heap[w.heap.size]? = some (.cells #[.int .i64 t, .bool c, .int .i64 x, .int .i64 v] 23 (0, 0))) ∧ Hid (wx.heap[w5.heap.size]? = some (.cells #[.int .i64 ca, .int .i64 v, .slice none 0 0] 28 (0, 0))) ∧ Hid (wx.heap[w.heap.size + 1 + 1]? = some (.cells #[.int .i64 pi, .int .i64 pj, .int .i64 v, .int .i64 pk, .int .i64 pa] 25 (0, 0))) ∧ Hid (Below w.heap.size w wx) ∧ B < wx.heap.size ∧ w6.heap.size ≤ B)
  case first =>
    have c6_s0 : w6.cell? ⟨w.heap.size, 0, none⟩ = some (.int .i64 t) := by rw [Lib.cell_of_heap h_s6]; rfl
    have c6_s1 : w6.cell? ⟨w.heap.size, 1, none⟩ = some (.bool c) := by rw [Lib.cell_of_heap h_s6]; rfl
    have c6_s2 : w6.cell? ⟨w.heap.size, 2, none⟩ = some (.int .i64 x) := by rw [Lib.cell_of_heap h_s6]; rfl
    have c6_s3 : w6.cell? ⟨w.heap.size, 3, none⟩ = some (.int .i64 v) := by rw [Lib.cell_of_heap h_s6]; rfl
    have c6_A0 : w6.cell? ⟨w5.heap.size, 0, none⟩ = some (.int .i64 ca) := by rw [Lib.cell_of_heap h_A6]; rfl
    have c6_A1 : w6.cell? ⟨w5.heap.size, 1, none⟩ = some (.int .i64 v) := by rw [Lib.cell_of_heap h_A6]; rfl
    have c6_A2 : w6.cell? ⟨w5.heap.size, 2, none⟩ = some (.slice none 0 0) := by rw [Lib.cell_of_heap h_A6]; rfl
    have c6_p0 : w6.cell? ⟨w.heap.size + 1 + 1, 0, none⟩ = some (.int .i64 pi) := by rw [Lib.cell_of_heap h_p6]; rfl
    have c6_p1 : w6.cell? ⟨w.heap.size + 1 + 1, 1, none⟩ = some (.int .i64 pj) := by rw [Lib.cell_of_heap h_p6]; rfl
    have c6_p2 : w6.cell? ⟨w.heap.size + 1 + 1, 2, none⟩ = some (.int .i64 v) := by rw [Lib.cell_of_heap h_p6]; rfl
    have c6_p3 : w6.cell? ⟨w.heap.size + 1 + 1, 3, none⟩ = some (.int .i64 pk) := by rw [Lib.cell_of_heap h_p6]; rfl
    have c6_p4 : w6.cell? ⟨w.heap.size + 1 + 1, 4, none⟩ = some (.int .i64 pa) := by rw [Lib.cell_of_heap h_p6]; rfl
    have l_s : w.heap.size < w6.heap.size := by omega
    have l1_s : w.heap.size < w6.heap.size + 1 := by omega
    have n_s0 := World.new_ne w6.drew ⟨w.heap.size, 0, none⟩ (u := .int .i64 t) c6_s0
    have n_s1 := World.new_ne w6.drew ⟨w.heap.size, 1, none⟩ (u := .bool c) c6_s1
    have n_s2 := World.new_ne w6.drew ⟨w.heap.size, 2, none⟩ (u := .int .i64 x) c6_s2
    have n_s3 := World.new_ne w6.drew ⟨w.heap.size, 3, none⟩ (u := .int .i64 v) c6_s3
    have l_A : w5.heap.size < w6.heap.size := by omega
    have l1_A : w5.heap.size < w6.heap.size + 1 := by omega
    have n_A0 := World.new_ne w6.drew ⟨w5.heap.size, 0, none⟩ (u := .int .i64 ca) c6_A0
    have n_A1 := World.new_ne w6.drew ⟨w5.heap.size, 1, none⟩ (u := .int .i64 v) c6_A1
    have n_A2 := World.new_ne w6.drew ⟨w5.heap.size, 2, none⟩ (u := .slice none 0 0) c6_A2
    have l_p : w.heap.size + 1 + 1 < w6.heap.size := by omega
    have l1_p : w.heap.size + 1 + 1 < w6.heap.size + 1 := by omega
    have n_p0 := World.new_ne w6.drew ⟨w.heap.size + 1 + 1, 0, none⟩ (u := .int .i64 pi) c6_p0
    have n_p1 := World.new_ne w6.drew ⟨w.heap.size + 1 + 1, 1, none⟩ (u := .int .i64 pj) c6_p1
    have n_p2 := World.new_ne w6.drew ⟨w.heap.size + 1 + 1, 2, none⟩ (u := .int .i64 v) c6_p2
    have n_p3 := World.new_ne w6.drew ⟨w.heap.size + 1 + 1, 3, none⟩ (u := .int .i64 pk) c6_p3
    have n_p4 := World.new_ne w6.drew ⟨w.heap.size + 1 + 1, 4, none⟩ (u := .int .i64 pa) c6_p4
    clear HW H1 H3 HS
    go_region_held3 (fun X => X.cell? ⟨w.heap.size, 0, none⟩ = some (.int .i64 t) ∧ X.cell? ⟨w.heap.size, 1, none⟩ = some (.bool c) ∧ X.cell? ⟨w.heap.size, 2, none⟩ = some (.int .i64 x) ∧ X.cell? ⟨w.heap.size, 3, none⟩ = some (.int .i64 v) ∧ X.cell? ⟨w5.heap.size, 0, none⟩ = some (.int .i64 ca) ∧ X.cell? ⟨w5.heap.size, 1, none⟩ = some (.int .i64 v) ∧ X.cell? ⟨w5.heap.size, 2, none⟩ = some (.slice none 0 0) ∧ X.cell? ⟨w.heap.size + 1 + 1, 0, none⟩ = some (.int .i64 pi) ∧ X.cell? ⟨w.heap.size + 1 + 1, 1, none⟩ = some (.int .i64 pj) ∧ X.cell? ⟨w.heap.size + 1 + 1, 2, none⟩ = some (.int .i64 v) ∧ X.cell? ⟨w.heap.size + 1 + 1, 3, none⟩ = some (.int .i64 pk) ∧ X.cell? ⟨w.heap.size + 1 + 1, 4, none⟩ = some (.int .i64 pa)) (first | exact hS6 | exact hS5 | go_keep | (refine ⟨?_, ?_, ?_, ?_, ?_, ?_, ?_, ?_, ?_, ?_, ?_, ?_⟩ <;> (rw [far_three (by omega)]; first | exact hS6.1 | exact hS6.2.1 | exact hS6.2.2.1 | exact hS6.2.2.2.1 | exact hS6.2.2.2.2.1 | exact hS6.2.2.2.2.2.1 | exact hS6.2.2.2.2.2.2.1 | exact hS6.2.2.2.2.2.2.2.1 | exact hS6.2.2.2.2.2.2.2.2.1 | exact hS6.2.2.2.2.2.2.2.2.2.1 | exact hS6.2.2.2.2.2.2.2.2.2.2.1 | exact hS6.2.2.2.2.2.2.2.2.2.2.2))) ((first | (go_at_call 16; (refine (HT.out _).mono ?_); rintro e wd ⟨rfl, hb⟩; have hsd : w6.heap.size ≤ wd.heap.size := (by have := hb.size; (try simp at this); omega); (try have hs2 : w6.heap.size < wd.heap.size := (by have := hb.size; simp at this; omega)); have hB5 : Below w.heap.size w wd := (by first | exact hb6.drew.trans (hb.mono hb6.size) | exact (hb6.alloc hb6.size _).drew.trans (hb.mono (by have := hb6.size; simp; omega))); have hO5 : Below w6.heap.size w6 wd := (by first | exact (Below.refl _ _).drew.trans hb | exact ((Below.refl _ _).alloc (Nat.le_refl _) _).drew.trans (hb.mono (by simp))); obtain ⟨hc, hf⟩ := bcell hb; have hS5 : wd.cell? ⟨w.heap.size, 0, none⟩ = some (.int .i64 t) ∧ wd.cell? ⟨w.heap.size, 1, none⟩ = some (.bool c) ∧ wd.cell? ⟨w.heap.size, 2, none⟩ = some (.int .i64 x) ∧ wd.cell? ⟨w.heap.size, 3, none⟩ = some (.int .i64 v) ∧ wd.cell? ⟨w5.heap.size, 0, none⟩ = some (.int .i64 ca) ∧ wd.cell? ⟨w5.heap.size, 1, none⟩ = some (.int .i64 v) ∧ wd.cell? ⟨w5.heap.size, 2, none⟩ = some (.slice none 0 0) ∧ wd.cell? ⟨w.heap.size + 1 + 1, 0, none⟩ = some (.int .i64 pi) ∧ wd.cell? ⟨w.heap.size + 1 + 1, 1, none⟩ = some (.int .i64 pj) ∧ wd.cell? ⟨w.heap.size + 1 + 1, 2, none⟩ = some (.int .i64 v) ∧ wd.cell? ⟨w.heap.size + 1 + 1, 3, none⟩ = some (.int .i64 pk) ∧ wd.cell? ⟨w.heap.size + 1 + 1, 4, none⟩ = some (.int .i64 pa) := ⟨(hO5.cell (p := ⟨w.heap.size, 0, none⟩) l_s).trans c6_s0, (hO5.cell (p := ⟨w.heap.size, 1, none⟩) l_s).trans c6_s1, (hO5.cell (p := ⟨w.heap.size, 2, none⟩) l_s).trans c6_s2, (hO5.cell (p := ⟨w.heap.size, 3, none⟩) l_s).trans c6_s3, (hO5.cell (p := ⟨w5.heap.size, 0, none⟩) l_A).trans c6_A0, (hO5.cell (p := ⟨w5.heap.size, 1, none⟩) l_A).trans c6_A1, (hO5.cell (p := ⟨w5.heap.size, 2, none⟩) l_A).trans c6_A2, (hO5.cell (p := ⟨w.heap.size + 1 + 1, 0, none⟩) l_p).trans c6_p0, (hO5.cell (p := ⟨w.heap.size + 1 + 1, 1, none⟩) l_p).trans c6_p1, (hO5.cell (p := ⟨w.heap.size + 1 + 1, 2, none⟩) l_p).trans c6_p2, (hO5.cell (p := ⟨w.heap.size + 1 + 1, 3, none⟩) l_p).trans c6_p3, (hO5.cell (p := ⟨w.heap.size + 1 + 1, 4, none⟩) l_p).trans c6_p4⟩) | (go_at_call 9; (refine (H2.out _ (by first | exact hB5 | exact hB5.drew | exact hB5.alloc hB5.size _)).mono ?_); rintro e we ⟨V, rfl, hE, hb'⟩; obtain rfl := hE.nil; have hse : wd.heap.size ≤ we.heap.size := (by have := hb'.size; (try simp at this); omega); (try have hs3 : w6.heap.size < we.heap.size := (by have := hb'.size; (try simp at this); omega)); have hB6 : Below w.heap.size w we := (by first | exact hB5.trans (hb'.mono hB5.size) | exact (hB5.alloc hB5.size _).trans (hb'.mono (by have := hB5.size; simp; omega))); have hO6 : Below w6.heap.size w6 we := (by first | exact hO5.trans (hb'.mono hO5.size) | exact (hO5.alloc hO5.size _).trans (hb'.mono (by have := hO5.size; simp; omega))); obtain ⟨hc', hf'⟩ := bcell hb'; have hS6 : we.cell? ⟨w.heap.size, 0, none⟩ = some (.int .i64 t) ∧ we.cell? ⟨w.heap.size, 1, none⟩ = some (.bool c) ∧ we.cell? ⟨w.heap.size, 2, none⟩ = some (.int .i64 x) ∧ we.cell? ⟨w.heap.size, 3, none⟩ = some (.int .i64 v) ∧ we.cell? ⟨w5.heap.size, 0, none⟩ = some (.int .i64 ca) ∧ we.cell? ⟨w5.heap.size, 1, none⟩ = some (.int .i64 v) ∧ we.cell? ⟨w5.heap.size, 2, none⟩ = some (.slice none 0 0) ∧ we.cell? ⟨w.heap.size + 1 + 1, 0, none⟩ = some (.int .i64 pi) ∧ we.cell? ⟨w.heap.size + 1 + 1, 1, none⟩ = some (.int .i64 pj) ∧ we.cell? ⟨w.heap.size + 1 + 1, 2, none⟩ = some (.int .i64 v) ∧ we.cell? ⟨w.heap.size + 1 + 1, 3, none⟩ = some (.int .i64 pk) ∧ we.cell? ⟨w.heap.size + 1 + 1, 4, none⟩ = some (.int .i64 pa) := ⟨(hO6.cell (p := ⟨w.heap.size, 0, none⟩) l_s).trans c6_s0, (hO6.cell (p := ⟨w.heap.size, 1, none⟩) l_s).trans c6_s1, (hO6.cell (p := ⟨w.heap.size, 2, none⟩) l_s).trans c6_s2, (hO6.cell (p := ⟨w.heap.size, 3, none⟩) l_s).trans c6_s3, (hO6.cell (p := ⟨w5.heap.size, 0, none⟩) l_A).trans c6_A0, (hO6.cell (p := ⟨w5.heap.size, 1, none⟩) l_A).trans c6_A1, (hO6.cell (p := ⟨w5.heap.size, 2, none⟩) l_A).trans c6_A2, (hO6.cell (p := ⟨w.heap.size + 1 + 1, 0, none⟩) l_p).trans c6_p0, (hO6.cell (p := ⟨w.heap.size + 1 + 1, 1, none⟩) l_p).trans c6_p1, (hO6.cell (p := ⟨w.heap.size + 1 + 1, 2, none⟩) l_p).trans c6_p2, (hO6.cell (p := ⟨w.heap.size + 1 + 1, 3, none⟩) l_p).trans c6_p3, (hO6.cell (p := ⟨w.heap.size + 1 + 1, 4, none⟩) l_p).trans c6_p4⟩)))
    · have hns : w6.heap.size ≤ we.heap.size := hO6.size
      have k_s := (hO6.block _ l_s).trans h_s6
      have k_A := (hO6.block _ l_A).trans h_A6
      have k_p := (hO6.block _ l_p).trans h_p6
      have hal : Below we.heap.size we (we.alloc (.cells #[.int .i64 cb, .int .i64 vb, .slice none 0 0] 28)) := (Below.refl _ _).alloc (Nat.le_refl _) _
      have K_s := Lib.hid ((hal.block _ (Nat.lt_of_lt_of_le l_s hns)).trans k_s)
      have K_A := Lib.hid ((hal.block _ (Nat.lt_of_lt_of_le l_A hns)).trans k_A)
      have K_p := Lib.hid ((hal.block _ (Nat.lt_of_lt_of_le l_p hns)).trans k_p)
      have KB := Lib.hid (hB6.alloc hB6.size (.cells #[.int .i64 cb, .int .i64 vb, .slice none 0 0] 28))
      clear hc hf hb hS5 hc' hf' hb' hS6 hal
      go_wp2_with fail
      go_meet
      case rel => exact ⟨we.heap.size, 0, rfl, Lib.hid (heap_alloc_new _ _), rfl, K_s, K_A, K_p, KB, by simp, by omega⟩
    · have hns : w6.heap.size ≤ we.heap.size := hO6.size
      have k_s := (hO6.block _ l_s).trans h_s6
      have k_A := (hO6.block _ l_A).trans h_A6
      have k_p := (hO6.block _ l_p).trans h_p6
      have hz := (hb'.block wd.heap.size (by simp)).trans (heap_alloc_new _ _)
      have hlt : wd.heap.size < we.heap.size := lt_of_block hz
      obtain ⟨W9, HW9⟩ : ∃ W : World, Hid (W = ((we.setCell ⟨wd.heap.size, 0, none⟩ (.int .i64 cb)).setCell ⟨wd.heap.size, 1, none⟩ (.int .i64 vb)).setCell ⟨wd.heap.size, 2, none⟩ (.slice none 0 0)) := ⟨_, Lib.hid rfl⟩
      obtain ⟨g1, g2, g3, g4⟩ := set_three (n := w.heap.size) hz (by omega) HW9.out
      have K_s := Lib.hid ((g4 _ (by omega)).trans k_s)
      have K_A := Lib.hid ((g4 _ (by omega)).trans k_A)
      have K_p := Lib.hid ((g4 _ (by omega)).trans k_p)
      have KB := Lib.hid (hB6.trans g2)
      have G1 := Lib.hid g1
      have G3 : wd.heap.size < W9.heap.size := by omega
      rw [← HW9.out]
      clear hc hf hb hS5 hc' hf' hb' hS6 hz g1 g2 g3 g4
      go_wp2_with fail
      go_meet
      case rel => exact ⟨wd.heap.size, 0, rfl, G1, rfl, K_s, K_A, K_p, KB, G3, by omega⟩
    · have hns : w6.heap.size ≤ we.heap.size := hO6.size
      have k_s := (hO6.block _ l_s).trans h_s6
      have k_A := (hO6.block _ l_A).trans h_A6
      have k_p := (hO6.block _ l_p).trans h_p6
      have hz := (hb'.block w6.heap.size hs2).trans ((hb.block w6.heap.size (by simp)).trans (heap_alloc_new _ _))
      have hlt : w6.heap.size < we.heap.size := lt_of_block hz
      obtain ⟨W9, HW9⟩ : ∃ W : World, Hid (W = ((we.setCell ⟨w6.heap.size, 0, none⟩ (.int .i64 cb)).setCell ⟨w6.heap.size, 1, none⟩ (.int .i64 vb)).setCell ⟨w6.heap.size, 2, none⟩ (.slice none 0 0)) := ⟨_, Lib.hid rfl⟩
      obtain ⟨g1, g2, g3, g4⟩ := set_three (n := w.heap.size) hz (by omega) HW9.out
      have K_s := Lib.hid ((g4 _ (by omega)).trans k_s)
      have K_A := Lib.hid ((g4 _ (by omega)).trans k_A)
      have K_p := Lib.hid ((g4 _ (by omega)).trans k_p)
      have KB := Lib.hid (hB6.trans g2)
      have G1 := Lib.hid g1
      have G3 : w6.heap.size < W9.heap.size := by omega
      rw [← HW9.out]
      clear hc hf hb hS5 hc' hf' hb' hS6 hz g1 g2 g3 g4
      go_wp2_with fail
      go_meet
      case rel => exact ⟨w6.heap.size, 0, rfl, G1, rfl, K_s, K_A, K_p, KB, G3, by omega⟩
  case rest =>
  obtain ⟨B, h, rfl, h_B, hE, h_s, h_A, h_p, HBC, hBl, hBg⟩ := hcut
  generalize wc = w20 at *
  have h_s20 := h_s.out
  clear h_s
  have h_A20 := h_A.out
  clear h_A
  have h_p20 := h_p.out
  clear h_p
  have h_B20 := h_B.out
  clear h_B
  have hb20 := HBC.out
  clear HBC
  clear hE
  have c20_s0 : w20.cell? ⟨w.heap.size, 0, none⟩ = some (.int .i64 t) := by rw [Lib.cell_of_heap h_s20]; rfl
  have c20_s1 : w20.cell? ⟨w.heap.size, 1, none⟩ = some (.bool c) := by rw [Lib.cell_of_heap h_s20]; rfl
  have c20_s2 : w20.cell? ⟨w.heap.size, 2, none⟩ = some (.int .i64 x) := by rw [Lib.cell_of_heap h_s20]; rfl
  have c20_s3 : w20.cell? ⟨w.heap.size, 3, none⟩ = some (.int .i64 v) := by rw [Lib.cell_of_heap h_s20]; rfl
  have c20_p0 : w20.cell? ⟨w.heap.size + 1 + 1, 0, none⟩ = some (.int .i64 pi) := by rw [Lib.cell_of_heap h_p20]; rfl
  have c20_p1 : w20.cell? ⟨w.heap.size + 1 + 1, 1, none⟩ = some (.int .i64 pj) := by rw [Lib.cell_of_heap h_p20]; rfl
  have c20_p2 : w20.cell? ⟨w.heap.size + 1 + 1, 2, none⟩ = some (.int .i64 v) := by rw [Lib.cell_of_heap h_p20]; rfl
  have c20_p3 : w20.cell? ⟨w.heap.size + 1 + 1, 3, none⟩ = some (.int .i64 pk) := by rw [Lib.cell_of_heap h_p20]; rfl
  have c20_p4 : w20.cell? ⟨w.heap.size + 1 + 1, 4, none⟩ = some (.int .i64 pa) := by rw [Lib.cell_of_heap h_p20]; rfl
  have c20_B0 : w20.cell? ⟨B, 0, none⟩ = some (.int .i64 cb) := by rw [Lib.cell_of_heap h_B20]; rfl
  have c20_B1 : w20.cell? ⟨B, 1, none⟩ = some (.int .i64 vb) := by rw [Lib.cell_of_heap h_B20]; rfl
  have c20_B2 : w20.cell? ⟨B, 2, none⟩ = some (.slice none 0 0) := by rw [Lib.cell_of_heap h_B20]; rfl
  have c20_A0 : w20.cell? ⟨w5.heap.size, 0, none⟩ = some (.int .i64 ca) := by rw [Lib.cell_of_heap h_A20]; rfl
  have c20_A1 : w20.cell? ⟨w5.heap.size, 1, none⟩ = some (.int .i64 v) := by rw [Lib.cell_of_heap h_A20]; rfl
  have c20_A2 : w20.cell? ⟨w5.heap.size, 2, none⟩ = some (.slice none 0 0) := by rw [Lib.cell_of_heap h_A20]; rfl
  go_wp2_with fail
  have l_s : w.heap.size < w20.heap.size := by omega
  have l_p : w.heap.size + 1 + 1 < w20.heap.size := by omega
  have l_B : B < w20.heap.size := by omega
  have l_A : w5.heap.size < w20.heap.size := by omega
  have hbd := hb20.drew
  go_region_held3 (fun X => X.cell? ⟨w.heap.size, 0, none⟩ = some (.int .i64 t) ∧ X.cell? ⟨w.heap.size, 1, none⟩ = some (.bool c) ∧ X.cell? ⟨w.heap.size, 2, none⟩ = some (.int .i64 x) ∧ X.cell? ⟨w.heap.size, 3, none⟩ = some (.int .i64 v) ∧ X.cell? ⟨w.heap.size + 1 + 1, 0, none⟩ = some (.int .i64 pi) ∧ X.cell? ⟨w.heap.size + 1 + 1, 1, none⟩ = some (.int .i64 pj) ∧ X.cell? ⟨w.heap.size + 1 + 1, 2, none⟩ = some (.int .i64 v) ∧ X.cell? ⟨w.heap.size + 1 + 1, 3, none⟩ = some (.int .i64 pk) ∧ X.cell? ⟨w.heap.size + 1 + 1, 4, none⟩ = some (.int .i64 pa) ∧ X.cell? ⟨B, 0, none⟩ = some (.int .i64 cb) ∧ X.cell? ⟨B, 1, none⟩ = some (.int .i64 vb) ∧ X.cell? ⟨B, 2, none⟩ = some (.slice none 0 0) ∧ X.cell? ⟨w5.heap.size, 0, none⟩ = some (.int .i64 ca) ∧ X.cell? ⟨w5.heap.size, 1, none⟩ = some (.int .i64 v) ∧ X.cell? ⟨w5.heap.size, 2, none⟩ = some (.slice none 0 0)) (first | exact hS6 | exact hS5 | go_keep) ((first | (go_at_call 9; (refine (H2.out _ hbd).mono ?_); rintro e wd ⟨V, rfl, hE, hb⟩; have hO5 : Below w20.heap.size w20 wd := ((Below.refl _ _).drew.trans hb); obtain rfl := hE.nil; have hS5 : wd.cell? ⟨w.heap.size, 0, none⟩ = some (.int .i64 t) ∧ wd.cell? ⟨w.heap.size, 1, none⟩ = some (.bool c) ∧ wd.cell? ⟨w.heap.size, 2, none⟩ = some (.int .i64 x) ∧ wd.cell? ⟨w.heap.size, 3, none⟩ = some (.int .i64 v) ∧ wd.cell? ⟨w.heap.size + 1 + 1, 0, none⟩ = some (.int .i64 pi) ∧ wd.cell? ⟨w.heap.size + 1 + 1, 1, none⟩ = some (.int .i64 pj) ∧ wd.cell? ⟨w.heap.size + 1 + 1, 2, none⟩ = some (.int .i64 v) ∧ wd.cell? ⟨w.heap.size + 1 + 1, 3, none⟩ = some (.int .i64 pk) ∧ wd.cell? ⟨w.heap.size + 1 + 1, 4, none⟩ = some (.int .i64 pa) ∧ wd.cell? ⟨B, 0, none⟩ = some (.int .i64 cb) ∧ wd.cell? ⟨B, 1, none⟩ = some (.int .i64 vb) ∧ wd.cell? ⟨B, 2, none⟩ = some (.slice none 0 0) ∧ wd.cell? ⟨w5.heap.size, 0, none⟩ = some (.int .i64 ca) ∧ wd.cell? ⟨w5.heap.size, 1, none⟩ = some (.int .i64 v) ∧ wd.cell? ⟨w5.heap.size, 2, none⟩ = some (.slice none 0 0) := ⟨(hO5.cell (p := ⟨w.heap.size, 0, none⟩) l_s).trans c20_s0, (hO5.cell (p := ⟨w.heap.size, 1, none⟩) l_s).trans c20_s1, (hO5.cell (p := ⟨w.heap.size, 2, none⟩) l_s).trans c20_s2, (hO5.cell (p := ⟨w.heap.size, 3, none⟩) l_s).trans c20_s3, (hO5.cell (p := ⟨w.heap.size + 1 + 1, 0, none⟩) l_p).trans c20_p0, (hO5.cell (p := ⟨w.heap.size + 1 + 1, 1, none⟩) l_p).trans c20_p1, (hO5.cell (p := ⟨w.heap.size + 1 + 1, 2, none⟩) l_p).trans c20_p2, (hO5.cell (p := ⟨w.heap.size + 1 + 1, 3, none⟩) l_p).trans c20_p3, (hO5.cell (p := ⟨w.heap.size + 1 + 1, 4, none⟩) l_p).trans c20_p4, (hO5.cell (p := ⟨B, 0, none⟩) l_B).trans c20_B0, (hO5.cell (p := ⟨B, 1, none⟩) l_B).trans c20_B1, (hO5.cell (p := ⟨B, 2, none⟩) l_B).trans c20_B2, (hO5.cell (p := ⟨w5.heap.size, 0, none⟩) l_A).trans c20_A0, (hO5.cell (p := ⟨w5.heap.size, 1, none⟩) l_A).trans c20_A1, (hO5.cell (p := ⟨w5.heap.size, 2, none⟩) l_A).trans c20_A2⟩) | (go_at_call 11; (refine (HS.out _).mono ?_); rintro e we ⟨rfl, hb'⟩; have hO6 : Below w20.heap.size w20 we := (hO5.trans (hb'.mono hO5.size)); have hS6 : we.cell? ⟨w.heap.size, 0, none⟩ = some (.int .i64 t) ∧ we.cell? ⟨w.heap.size, 1, none⟩ = some (.bool c) ∧ we.cell? ⟨w.heap.size, 2, none⟩ = some (.int .i64 x) ∧ we.cell? ⟨w.heap.size, 3, none⟩ = some (.int .i64 v) ∧ we.cell? ⟨w.heap.size + 1 + 1, 0, none⟩ = some (.int .i64 pi) ∧ we.cell? ⟨w.heap.size + 1 + 1, 1, none⟩ = some (.int .i64 pj) ∧ we.cell? ⟨w.heap.size + 1 + 1, 2, none⟩ = some (.int .i64 v) ∧ we.cell? ⟨w.heap.size + 1 + 1, 3, none⟩ = some (.int .i64 pk) ∧ we.cell? ⟨w.heap.size + 1 + 1, 4, none⟩ = some (.int .i64 pa) ∧ we.cell? ⟨B, 0, none⟩ = some (.int .i64 cb) ∧ we.cell? ⟨B, 1, none⟩ = some (.int .i64 vb) ∧ we.cell? ⟨B, 2, none⟩ = some (.slice none 0 0) ∧ we.cell? ⟨w5.heap.size, 0, none⟩ = some (.int .i64 ca) ∧ we.cell? ⟨w5.heap.size, 1, none⟩ = some (.int .i64 v) ∧ we.cell? ⟨w5.heap.size, 2, none⟩ = some (.slice none 0 0) := ⟨(hO6.cell (p := ⟨w.heap.size, 0, none⟩) l_s).trans c20_s0, (hO6.cell (p := ⟨w.heap.size, 1, none⟩) l_s).trans c20_s1, (hO6.cell (p := ⟨w.heap.size, 2, none⟩) l_s).trans c20_s2, (hO6.cell (p := ⟨w.heap.size, 3, none⟩) l_s).trans c20_s3, (hO6.cell (p := ⟨w.heap.size + 1 + 1, 0, none⟩) l_p).trans c20_p0, (hO6.cell (p := ⟨w.heap.size + 1 + 1, 1, none⟩) l_p).trans c20_p1, (hO6.cell (p := ⟨w.heap.size + 1 + 1, 2, none⟩) l_p).trans c20_p2, (hO6.cell (p := ⟨w.heap.size + 1 + 1, 3, none⟩) l_p).trans c20_p3, (hO6.cell (p := ⟨w.heap.size + 1 + 1, 4, none⟩) l_p).trans c20_p4, (hO6.cell (p := ⟨B, 0, none⟩) l_B).trans c20_B0, (hO6.cell (p := ⟨B, 1, none⟩) l_B).trans c20_B1, (hO6.cell (p := ⟨B, 2, none⟩) l_B).trans c20_B2, (hO6.cell (p := ⟨w5.heap.size, 0, none⟩) l_A).trans c20_A0, (hO6.cell (p := ⟨w5.heap.size, 1, none⟩) l_A).trans c20_A1, (hO6.cell (p := ⟨w5.heap.size, 2, none⟩) l_A).trans c20_A2⟩)))
  clear l_s
  clear l_p
  clear l_B
  clear l_A
  have hb := hO6
  clear hO6 hS6 hS5 hO5 hb' hbd
  generalize we = w21 at *
  clear c20_s0 c20_s1 c20_s2 c20_s3 c20_p0 c20_p1 c20_p2 c20_p3 c20_p4 c20_B0 c20_B1 c20_B2 c20_A0 c20_A1 c20_A2
  have h_s21 := (hb.block (w.heap.size) (by omega)).trans h_s20
  have h_A21 := (hb.block (w5.heap.size) (by omega)).trans h_A20
  have h_p21 := (hb.block (w.heap.size + 1 + 1) (by omega)).trans h_p20
  have h_B21 := (hb.block (B) (by omega)).trans h_B20
  have hb21 : Below w.heap.size w w21 := hb20.trans (hb.mono (by omega))
  have hz21 : w20.heap.size ≤ w21.heap.size := hb.size
  clear hb
  have c21_p2 : w21.cell? ⟨w.heap.size + 1 + 1, 2, none⟩ = some (.int .i64 v) := by rw [Lib.cell_of_heap h_p21]; rfl
  have f21_p : ∀ i, w21.frozen? ⟨w.heap.size + 1 + 1, i, none⟩ = false := fun i => Lib.frozen_of_heap h_p21 i
  obtain ⟨w22, HX22⟩ : ∃ W : World, Hid (W = w21.setCell ⟨w.heap.size + 1 + 1, 2, none⟩ (.int .i64 (-1))) := ⟨_, Lib.hid rfl⟩
  obtain ⟨h_p22, hbl, hzz, hoth⟩ := set_ex (n := w.heap.size) h_p21 (by omega) HX22.out
  have h_s22 := (hoth (w.heap.size) (by omega)).trans h_s21
  have h_A22 := (hoth (w5.heap.size) (by omega)).trans h_A21
  have h_B22 := (hoth (B) (by omega)).trans h_B21
  have hb22 := hb21.trans hbl
  have hz22 : w21.heap.size ≤ w22.heap.size := by omega
  clear hbl hzz hoth
  have c22_s0 : w22.cell? ⟨w.heap.size, 0, none⟩ = some (.int .i64 t) := by rw [Lib.cell_of_heap h_s22]; rfl
  have c22_s1 : w22.cell? ⟨w.heap.size, 1, none⟩ = some (.bool c) := by rw [Lib.cell_of_heap h_s22]; rfl
  have c22_s2 : w22.cell? ⟨w.heap.size, 2, none⟩ = some (.int .i64 x) := by rw [Lib.cell_of_heap h_s22]; rfl
  have c22_s3 : w22.cell? ⟨w.heap.size, 3, none⟩ = some (.int .i64 v) := by rw [Lib.cell_of_heap h_s22]; rfl
  have c22_p0 : w22.cell? ⟨w.heap.size + 1 + 1, 0, none⟩ = some (.int .i64 pi) := by rw [Lib.cell_of_heap h_p22]; rfl
  have c22_p1 : w22.cell? ⟨w.heap.size + 1 + 1, 1, none⟩ = some (.int .i64 pj) := by rw [Lib.cell_of_heap h_p22]; rfl
  have c22_p2 : w22.cell? ⟨w.heap.size + 1 + 1, 2, none⟩ = some (.int .i64 (-1)) := by rw [Lib.cell_of_heap h_p22]; rfl
  have c22_p3 : w22.cell? ⟨w.heap.size + 1 + 1, 3, none⟩ = some (.int .i64 pk) := by rw [Lib.cell_of_heap h_p22]; rfl
  have c22_p4 : w22.cell? ⟨w.heap.size + 1 + 1, 4, none⟩ = some (.int .i64 pa) := by rw [Lib.cell_of_heap h_p22]; rfl
  go_wp2_with (rw [← HX22.out])
  refine (H3.out _ hb22).mono ?_
  rintro e w23 ⟨V, rfl, hE, hb⟩
  clear c21_p2 f21_p c22_s0 c22_s1 c22_s2 c22_s3 c22_p0 c22_p1 c22_p2 c22_p3 c22_p4
  have h_s23 := (hb.block (w.heap.size) (by omega)).trans h_s22
  have h_A23 := (hb.block (w5.heap.size) (by omega)).trans h_A22
  have h_p23 := (hb.block (w.heap.size + 1 + 1) (by omega)).trans h_p22
  have h_B23 := (hb.block (B) (by omega)).trans h_B22
  have hb23 : Below w.heap.size w w23 := hb22.trans (hb.mono (by omega))
  have hz23 : w22.heap.size ≤ w23.heap.size := hb.size
  clear hb
  rcases hE with ⟨rfl, rfl⟩ | ⟨e0, g0, rfl, rfl, -, -⟩
  · obtain ⟨w24, HX24⟩ : ∃ W : World, Hid (W = w23.alloc (.cells #[.int .i64 cc, .int .i64 vc, .slice none 0 0] 28)) := ⟨_, Lib.hid rfl⟩
    have hb : Below w23.heap.size w23 w24 := by rw [HX24.out]; exact (Below.refl _ _).alloc (Nat.le_refl _) _
    have h_c24 : w24.heap[w23.heap.size]? = some (.cells #[.int .i64 cc, .int .i64 vc, .slice none 0 0] 28 (0, 0)) := by rw [HX24.out]; exact heap_alloc_new _ _
    have hy24 : w23.heap.size < w24.heap.size := by rw [HX24.out]; simp
    have h_s24 := (hb.block (w.heap.size) (by omega)).trans h_s23
    have h_A24 := (hb.block (w5.heap.size) (by omega)).trans h_A23
    have h_p24 := (hb.block (w.heap.size + 1 + 1) (by omega)).trans h_p23
    have h_B24 := (hb.block (B) (by omega)).trans h_B23
    have hb24 : Below w.heap.size w w24 := hb23.trans (hb.mono (by omega))
    have hz24 : w23.heap.size ≤ w24.heap.size := hb.size
    clear hb
    have c24_A0 : w24.cell? ⟨w5.heap.size, 0, none⟩ = some (.int .i64 ca) := by rw [Lib.cell_of_heap h_A24]; rfl
    have c24_c0 : w24.cell? ⟨w23.heap.size, 0, none⟩ = some (.int .i64 cc) := by rw [Lib.cell_of_heap h_c24]; rfl
    go_wp2_with (rw [← HX24.out])
    refine (HW.out _ hb24).mono ?_
    rintro e w25 ⟨rfl, hb⟩
    clear c24_A0 c24_c0
    have h_s25 := (hb.block (w.heap.size) (by omega)).trans h_s24
    have h_A25 := (hb.block (w5.heap.size) (by omega)).trans h_A24
    have h_p25 := (hb.block (w.heap.size + 1 + 1) (by omega)).trans h_p24
    have h_B25 := (hb.block (B) (by omega)).trans h_B24
    have h_c25 := (hb.block (w23.heap.size) (by omega)).trans h_c24
    have hb25 : Below w.heap.size w w25 := hb24.trans (hb.mono (by omega))
    have hz25 : w24.heap.size ≤ w25.heap.size := hb.size
    clear hb
    go_wp2_with fail
    all_goals
      go_ret
      exact ⟨rfl, hb25⟩
  · obtain ⟨w24, HX24⟩ : ∃ W : World, Hid (W = w23.alloc (.cells #[.int .i64 cc, .int .i64 vc, .slice (some ⟨g0, 0, none⟩) 1 1] 28)) := ⟨_, Lib.hid rfl⟩
    have hb : Below w23.heap.size w23 w24 := by rw [HX24.out]; exact (Below.refl _ _).alloc (Nat.le_refl _) _
    have h_c24 : w24.heap[w23.heap.size]? = some (.cells #[.int .i64 cc, .int .i64 vc, .slice (some ⟨g0, 0, none⟩) 1 1] 28 (0, 0)) := by rw [HX24.out]; exact heap_alloc_new _ _
    have hy24 : w23.heap.size < w24.heap.size := by rw [HX24.out]; simp
    have h_s24 := (hb.block (w.heap.size) (by omega)).trans h_s23
    have h_A24 := (hb.block (w5.heap.size) (by omega)).trans h_A23
    have h_p24 := (hb.block (w.heap.size + 1 + 1) (by omega)).trans h_p23
    have h_B24 := (hb.block (B) (by omega)).trans h_B23
    have hb24 : Below w.heap.size w w24 := hb23.trans (hb.mono (by omega))
    have hz24 : w23.heap.size ≤ w24.heap.size := hb.size
    clear hb
    have c24_A0 : w24.cell? ⟨w5.heap.size, 0, none⟩ = some (.int .i64 ca) := by rw [Lib.cell_of_heap h_A24]; rfl
    have c24_c0 : w24.cell? ⟨w23.heap.size, 0, none⟩ = some (.int .i64 cc) := by rw [Lib.cell_of_heap h_c24]; rfl
    go_wp2_with (rw [← HX24.out])
    refine (HW.out _ hb24).mono ?_
    rintro e w25 ⟨rfl, hb⟩
    clear c24_A0 c24_c0
    have h_s25 := (hb.block (w.heap.size) (by omega)).trans h_s24
    have h_A25 := (hb.block (w5.heap.size) (by omega)).trans h_A24
    have h_p25 := (hb.block (w.heap.size + 1 + 1) (by omega)).trans h_p24
    have h_B25 := (hb.block (B) (by omega)).trans h_B24
    have h_c25 := (hb.block (w23.heap.size) (by omega)).trans h_c24
    have hb25 : Below w.heap.size w w25 := hb24.trans (hb.mono (by omega))
    have hz25 : w24.heap.size ≤ w25.heap.size := hb.size
    clear hb
    go_wp2_with fail
    all_goals
      go_ret
      exact ⟨rfl, hb25⟩
set_option maxRecDepth 100000 in
set_option maxHeartbeats 16000000 in
theorem no_one (t : Int) (c : Bool) (x v oi oj oe ok oa pi pj pe pk pa ca cb vb cc vc k2 a2 : Int) (evc : List Ev) (_z : Int) (w : World) (HAK : Hid (∀ X : World, Below w.heap.size w X → Asked X))
    (HM : Hid (∀ X : World, Calls Tryd.prog 15 #[.agg #[.int .i64 t, .bool c, .int .i64 x, .int .i64 v]] X (NumPost (.bool true) X)))
    (H1 : Hid (∀ X : World, Below w.heap.size w X → Calls Tryd.prog 9 #[.agg #[.int .i64 t, .bool c, .int .i64 x, .int .i64 v], .agg #[.int .i64 oi, .int .i64 oj, .int .i64 v, .int .i64 ok, .int .i64 oa]] X (DecPost ⟨ca, v, []⟩ X)))
    (HT : Hid (∀ X : World, Calls Tryd.prog 16 #[.agg #[.int .i64 t, .bool c, .int .i64 x, .int .i64 v], .agg #[.int .i64 ca, .int .i64 v, .slice none 0 0]] X (NumPost (.agg #[.int .i64 t, .bool c, .int .i64 x, .int .i64 v]) X)))
    (H2 : Hid (∀ X : World, Below w.heap.size w X → Calls Tryd.prog 9 #[.agg #[.int .i64 t, .bool c, .int .i64 x, .int .i64 v], .agg #[.int .i64 pi, .int .i64 pj, .int .i64 v, .int .i64 pk, .int .i64 pa]] X (DecPost ⟨cb, vb, [⟨k2, a2⟩]⟩ X)))
    (H3 : Hid (∀ X : World, Below w.heap.size w X → Calls Tryd.prog 9 #[.agg #[.int .i64 t, .bool c, .int .i64 x, .int .i64 v], .agg #[.int .i64 pi, .int .i64 pj, .int .i64 (-1), .int .i64 pk, .int .i64 pa]] X (DecPost ⟨cc, vc, evc⟩ X))) (f1 : (ca == 1) = false) (f2 : (ca != 1) = true) (f3 : (ca != 2) = true) (f4 : (cc != 2) = true) :
    Calls Tryd.prog 7 #[.agg #[.int .i64 t, .bool c, .int .i64 x, .int .i64 v], .agg #[.int .i64 oi, .int .i64 oj, .int .i64 oe, .int .i64 ok, .int .i64 oa], .agg #[.int .i64 pi, .int .i64 pj, .int .i64 pe, .int .i64 pk, .int .i64 pa]] w (fun e w' => e = .returned (.bool true) ∧ Below w.heap.size w w') := by
  have HW := Lib.hid (fun X (hX : Below w.heap.size w X) => aeWorks_any X (HAK.out X hX))
  clear HAK
  obtain ⟨w1, HX1⟩ : ∃ W : World, Hid (W = (((w.alloc (.cells #[.int .i64 t, .bool c, .int .i64 x, .int .i64 v] 23)).alloc (.cells #[.int .i64 oi, .int .i64 oj, .int .i64 oe, .int .i64 ok, .int .i64 oa] 25)).alloc (.cells #[.int .i64 pi, .int .i64 pj, .int .i64 pe, .int .i64 pk, .int .i64 pa] 25))) := ⟨_, Lib.hid rfl⟩
  obtain ⟨hz1, hb1, h_s1, h_o1, h_p1⟩ := three_blocks HX1.out
  replace hz1 : w.heap.size + 3 ≤ w1.heap.size := by omega
  have c1_s0 : w1.cell? ⟨w.heap.size, 0, none⟩ = some (.int .i64 t) := by rw [Lib.cell_of_heap h_s1]; rfl
  have c1_s1 : w1.cell? ⟨w.heap.size, 1, none⟩ = some (.bool c) := by rw [Lib.cell_of_heap h_s1]; rfl
  have c1_s2 : w1.cell? ⟨w.heap.size, 2, none⟩ = some (.int .i64 x) := by rw [Lib.cell_of_heap h_s1]; rfl
  have c1_s3 : w1.cell? ⟨w.heap.size, 3, none⟩ = some (.int .i64 v) := by rw [Lib.cell_of_heap h_s1]; rfl
  go_enter Tryd.func7, Tryd.ntmps7
  go_wp2_with (rw [← HX1.out])
  refine (HM.out _).mono ?_
  rintro e w2 ⟨rfl, hb⟩
  clear c1_s0 c1_s1 c1_s2 c1_s3
  have h_s2 := (hb.block (w.heap.size) (by omega)).trans h_s1
  have h_o2 := (hb.block (w.heap.size + 1) (by omega)).trans h_o1
  have h_p2 := (hb.block (w.heap.size + 1 + 1) (by omega)).trans h_p1
  have hb2 : Below w.heap.size w w2 := hb1.trans (hb.mono (by omega))
  have hz2 : w1.heap.size ≤ w2.heap.size := hb.size
  clear hb
  have HS := Lib.hid (fun g g' X h h' => same_one cb vb k2 a2 g g' X h h')
  have c2_s3 : w2.cell? ⟨w.heap.size, 3, none⟩ = some (.int .i64 v) := by rw [Lib.cell_of_heap h_s2]; rfl
  have c2_o2 : w2.cell? ⟨w.heap.size + 1, 2, none⟩ = some (.int .i64 oe) := by rw [Lib.cell_of_heap h_o2]; rfl
  have c2_p2 : w2.cell? ⟨w.heap.size + 1 + 1, 2, none⟩ = some (.int .i64 pe) := by rw [Lib.cell_of_heap h_p2]; rfl
  have f2_o : ∀ i, w2.frozen? ⟨w.heap.size + 1, i, none⟩ = false := fun i => Lib.frozen_of_heap h_o2 i
  have f2_p : ∀ i, w2.frozen? ⟨w.heap.size + 1 + 1, i, none⟩ = false := fun i => Lib.frozen_of_heap h_p2 i
  obtain ⟨w3, HX3⟩ : ∃ W : World, Hid (W = w2.setCell ⟨w.heap.size + 1, 2, none⟩ (.int .i64 v)) := ⟨_, Lib.hid rfl⟩
  obtain ⟨h_o3, hbl, hzz, hoth⟩ := set_ex (n := w.heap.size) h_o2 (by omega) HX3.out
  have h_s3 := (hoth (w.heap.size) (by omega)).trans h_s2
  have h_p3 := (hoth (w.heap.size + 1 + 1) (by omega)).trans h_p2
  have hb3 := hb2.trans hbl
  have hz3 : w2.heap.size ≤ w3.heap.size := by omega
  clear hbl hzz hoth
  have c3_s3 : w3.cell? ⟨w.heap.size, 3, none⟩ = some (.int .i64 v) := by rw [Lib.cell_of_heap h_s3]; rfl
  have c3_p2 : w3.cell? ⟨w.heap.size + 1 + 1, 2, none⟩ = some (.int .i64 pe) := by rw [Lib.cell_of_heap h_p3]; rfl
  have f3_p : ∀ i, w3.frozen? ⟨w.heap.size + 1 + 1, i, none⟩ = false := fun i => Lib.frozen_of_heap h_p3 i
  obtain ⟨w4, HX4⟩ : ∃ W : World, Hid (W = w3.setCell ⟨w.heap.size + 1 + 1, 2, none⟩ (.int .i64 v)) := ⟨_, Lib.hid rfl⟩
  obtain ⟨h_p4, hbl, hzz, hoth⟩ := set_ex (n := w.heap.size) h_p3 (by omega) HX4.out
  have h_s4 := (hoth (w.heap.size) (by omega)).trans h_s3
  have h_o4 := (hoth (w.heap.size + 1) (by omega)).trans h_o3
  have hb4 := hb3.trans hbl
  have hz4 : w3.heap.size ≤ w4.heap.size := by omega
  clear hbl hzz hoth
  have c4_s0 : w4.cell? ⟨w.heap.size, 0, none⟩ = some (.int .i64 t) := by rw [Lib.cell_of_heap h_s4]; rfl
  have c4_s1 : w4.cell? ⟨w.heap.size, 1, none⟩ = some (.bool c) := by rw [Lib.cell_of_heap h_s4]; rfl
  have c4_s2 : w4.cell? ⟨w.heap.size, 2, none⟩ = some (.int .i64 x) := by rw [Lib.cell_of_heap h_s4]; rfl
  have c4_s3 : w4.cell? ⟨w.heap.size, 3, none⟩ = some (.int .i64 v) := by rw [Lib.cell_of_heap h_s4]; rfl
  have c4_o0 : w4.cell? ⟨w.heap.size + 1, 0, none⟩ = some (.int .i64 oi) := by rw [Lib.cell_of_heap h_o4]; rfl
  have c4_o1 : w4.cell? ⟨w.heap.size + 1, 1, none⟩ = some (.int .i64 oj) := by rw [Lib.cell_of_heap h_o4]; rfl
  have c4_o2 : w4.cell? ⟨w.heap.size + 1, 2, none⟩ = some (.int .i64 v) := by rw [Lib.cell_of_heap h_o4]; rfl
  have c4_o3 : w4.cell? ⟨w.heap.size + 1, 3, none⟩ = some (.int .i64 ok) := by rw [Lib.cell_of_heap h_o4]; rfl
  have c4_o4 : w4.cell? ⟨w.heap.size + 1, 4, none⟩ = some (.int .i64 oa) := by rw [Lib.cell_of_heap h_o4]; rfl
  go_wp2_with (first | rw [← HX3.out] | rw [← HX4.out])
  refine (H1.out _ hb4).mono ?_
  rintro e w5 ⟨V, rfl, hE, hb⟩
  clear c2_s3 c2_o2 c2_p2 f2_o f2_p c3_s3 c3_p2 f3_p c4_s0 c4_s1 c4_s2 c4_s3 c4_o0 c4_o1 c4_o2 c4_o3 c4_o4
  have h_s5 := (hb.block (w.heap.size) (by omega)).trans h_s4
  have h_o5 := (hb.block (w.heap.size + 1) (by omega)).trans h_o4
  have h_p5 := (hb.block (w.heap.size + 1 + 1) (by omega)).trans h_p4
  have hb5 : Below w.heap.size w w5 := hb4.trans (hb.mono (by omega))
  have hz5 : w4.heap.size ≤ w5.heap.size := hb.size
  clear hb
  obtain rfl := hE.nil
  clear hE
  obtain ⟨w6, HX6⟩ : ∃ W : World, Hid (W = w5.alloc (.cells #[.int .i64 ca, .int .i64 v, .slice none 0 0] 28)) := ⟨_, Lib.hid rfl⟩
  have hb : Below w5.heap.size w5 w6 := by rw [HX6.out]; exact (Below.refl _ _).alloc (Nat.le_refl _) _
  have h_A6 : w6.heap[w5.heap.size]? = some (.cells #[.int .i64 ca, .int .i64 v, .slice none 0 0] 28 (0, 0)) := by rw [HX6.out]; exact heap_alloc_new _ _
  have hy6 : w5.heap.size < w6.heap.size := by rw [HX6.out]; simp
  have h_s6 := (hb.block (w.heap.size) (by omega)).trans h_s5
  have h_o6 := (hb.block (w.heap.size + 1) (by omega)).trans h_o5
  have h_p6 := (hb.block (w.heap.size + 1 + 1) (by omega)).trans h_p5
  have hb6 : Below w.heap.size w w6 := hb5.trans (hb.mono (by omega))
  have hz6 : w5.heap.size ≤ w6.heap.size := hb.size
  clear hb
  go_upto_region 6 with (rw [← HX6.out])
  go_cut [8] (fun u wx => ∃ (B h : Nat), u = .pointer (some ⟨B, 0, none⟩) ∧ Hid (wx.heap[B]? = some (.cells #[.int .i64 cb, .int .i64 vb, .slice (some ⟨h, 0, none⟩) 1 1] 28 (0, 0))) ∧ Hid (wx.heap[h]? = some (.cells #[.int .i64 k2, .int .i64 a2] 32 (0, 0))) ∧ Hid (wx.heap[w.heap.size]? = some (.cells #[.int .i64 t, .bool c, .int .i64 x, .int .i64 v] 23 (0, 0))) ∧ Hid (wx.heap[w5.heap.size]? = some (.cells #[.int .i64 ca, .int .i64 v, .slice none 0 0] 28 (0, 0))) ∧ Hid (wx.heap[w.heap.size + 1 + 1]? = some (.cells #[.int .i64 pi, .int .i64 pj, .int .i64 v, .int .i64 pk, .int .i64 pa] 25 (0, 0))) ∧ Hid (Below w.heap.size w wx) ∧ B < wx.heap.size ∧ w6.heap.size ≤ B)
  case first =>
    have c6_s0 : w6.cell? ⟨w.heap.size, 0, none⟩ = some (.int .i64 t) := by rw [Lib.cell_of_heap h_s6]; rfl
    have c6_s1 : w6.cell? ⟨w.heap.size, 1, none⟩ = some (.bool c) := by rw [Lib.cell_of_heap h_s6]; rfl
    have c6_s2 : w6.cell? ⟨w.heap.size, 2, none⟩ = some (.int .i64 x) := by rw [Lib.cell_of_heap h_s6]; rfl
    have c6_s3 : w6.cell? ⟨w.heap.size, 3, none⟩ = some (.int .i64 v) := by rw [Lib.cell_of_heap h_s6]; rfl
    have c6_A0 : w6.cell? ⟨w5.heap.size, 0, none⟩ = some (.int .i64 ca) := by rw [Lib.cell_of_heap h_A6]; rfl
    have c6_A1 : w6.cell? ⟨w5.heap.size, 1, none⟩ = some (.int .i64 v) := by rw [Lib.cell_of_heap h_A6]; rfl
    have c6_A2 : w6.cell? ⟨w5.heap.size, 2, none⟩ = some (.slice none 0 0) := by rw [Lib.cell_of_heap h_A6]; rfl
    have c6_p0 : w6.cell? ⟨w.heap.size + 1 + 1, 0, none⟩ = some (.int .i64 pi) := by rw [Lib.cell_of_heap h_p6]; rfl
    have c6_p1 : w6.cell? ⟨w.heap.size + 1 + 1, 1, none⟩ = some (.int .i64 pj) := by rw [Lib.cell_of_heap h_p6]; rfl
    have c6_p2 : w6.cell? ⟨w.heap.size + 1 + 1, 2, none⟩ = some (.int .i64 v) := by rw [Lib.cell_of_heap h_p6]; rfl
    have c6_p3 : w6.cell? ⟨w.heap.size + 1 + 1, 3, none⟩ = some (.int .i64 pk) := by rw [Lib.cell_of_heap h_p6]; rfl
    have c6_p4 : w6.cell? ⟨w.heap.size + 1 + 1, 4, none⟩ = some (.int .i64 pa) := by rw [Lib.cell_of_heap h_p6]; rfl
    have l_s : w.heap.size < w6.heap.size := by omega
    have l1_s : w.heap.size < w6.heap.size + 1 := by omega
    have n_s0 := World.new_ne w6.drew ⟨w.heap.size, 0, none⟩ (u := .int .i64 t) c6_s0
    have n_s1 := World.new_ne w6.drew ⟨w.heap.size, 1, none⟩ (u := .bool c) c6_s1
    have n_s2 := World.new_ne w6.drew ⟨w.heap.size, 2, none⟩ (u := .int .i64 x) c6_s2
    have n_s3 := World.new_ne w6.drew ⟨w.heap.size, 3, none⟩ (u := .int .i64 v) c6_s3
    have l_A : w5.heap.size < w6.heap.size := by omega
    have l1_A : w5.heap.size < w6.heap.size + 1 := by omega
    have n_A0 := World.new_ne w6.drew ⟨w5.heap.size, 0, none⟩ (u := .int .i64 ca) c6_A0
    have n_A1 := World.new_ne w6.drew ⟨w5.heap.size, 1, none⟩ (u := .int .i64 v) c6_A1
    have n_A2 := World.new_ne w6.drew ⟨w5.heap.size, 2, none⟩ (u := .slice none 0 0) c6_A2
    have l_p : w.heap.size + 1 + 1 < w6.heap.size := by omega
    have l1_p : w.heap.size + 1 + 1 < w6.heap.size + 1 := by omega
    have n_p0 := World.new_ne w6.drew ⟨w.heap.size + 1 + 1, 0, none⟩ (u := .int .i64 pi) c6_p0
    have n_p1 := World.new_ne w6.drew ⟨w.heap.size + 1 + 1, 1, none⟩ (u := .int .i64 pj) c6_p1
    have n_p2 := World.new_ne w6.drew ⟨w.heap.size + 1 + 1, 2, none⟩ (u := .int .i64 v) c6_p2
    have n_p3 := World.new_ne w6.drew ⟨w.heap.size + 1 + 1, 3, none⟩ (u := .int .i64 pk) c6_p3
    have n_p4 := World.new_ne w6.drew ⟨w.heap.size + 1 + 1, 4, none⟩ (u := .int .i64 pa) c6_p4
    clear HW H1 H3 HS
    go_region_held3 (fun X => X.cell? ⟨w.heap.size, 0, none⟩ = some (.int .i64 t) ∧ X.cell? ⟨w.heap.size, 1, none⟩ = some (.bool c) ∧ X.cell? ⟨w.heap.size, 2, none⟩ = some (.int .i64 x) ∧ X.cell? ⟨w.heap.size, 3, none⟩ = some (.int .i64 v) ∧ X.cell? ⟨w5.heap.size, 0, none⟩ = some (.int .i64 ca) ∧ X.cell? ⟨w5.heap.size, 1, none⟩ = some (.int .i64 v) ∧ X.cell? ⟨w5.heap.size, 2, none⟩ = some (.slice none 0 0) ∧ X.cell? ⟨w.heap.size + 1 + 1, 0, none⟩ = some (.int .i64 pi) ∧ X.cell? ⟨w.heap.size + 1 + 1, 1, none⟩ = some (.int .i64 pj) ∧ X.cell? ⟨w.heap.size + 1 + 1, 2, none⟩ = some (.int .i64 v) ∧ X.cell? ⟨w.heap.size + 1 + 1, 3, none⟩ = some (.int .i64 pk) ∧ X.cell? ⟨w.heap.size + 1 + 1, 4, none⟩ = some (.int .i64 pa)) (first | exact hS6 | exact hS5 | go_keep | (refine ⟨?_, ?_, ?_, ?_, ?_, ?_, ?_, ?_, ?_, ?_, ?_, ?_⟩ <;> (rw [far_three (by omega)]; first | exact hS6.1 | exact hS6.2.1 | exact hS6.2.2.1 | exact hS6.2.2.2.1 | exact hS6.2.2.2.2.1 | exact hS6.2.2.2.2.2.1 | exact hS6.2.2.2.2.2.2.1 | exact hS6.2.2.2.2.2.2.2.1 | exact hS6.2.2.2.2.2.2.2.2.1 | exact hS6.2.2.2.2.2.2.2.2.2.1 | exact hS6.2.2.2.2.2.2.2.2.2.2.1 | exact hS6.2.2.2.2.2.2.2.2.2.2.2))) ((first | (go_at_call 16; (refine (HT.out _).mono ?_); rintro e wd ⟨rfl, hb⟩; have hsd : w6.heap.size ≤ wd.heap.size := (by have := hb.size; (try simp at this); omega); (try have hs2 : w6.heap.size < wd.heap.size := (by have := hb.size; simp at this; omega)); have hB5 : Below w.heap.size w wd := (by first | exact hb6.drew.trans (hb.mono hb6.size) | exact (hb6.alloc hb6.size _).drew.trans (hb.mono (by have := hb6.size; simp; omega))); have hO5 : Below w6.heap.size w6 wd := (by first | exact (Below.refl _ _).drew.trans hb | exact ((Below.refl _ _).alloc (Nat.le_refl _) _).drew.trans (hb.mono (by simp))); obtain ⟨hc, hf⟩ := bcell hb; have hS5 : wd.cell? ⟨w.heap.size, 0, none⟩ = some (.int .i64 t) ∧ wd.cell? ⟨w.heap.size, 1, none⟩ = some (.bool c) ∧ wd.cell? ⟨w.heap.size, 2, none⟩ = some (.int .i64 x) ∧ wd.cell? ⟨w.heap.size, 3, none⟩ = some (.int .i64 v) ∧ wd.cell? ⟨w5.heap.size, 0, none⟩ = some (.int .i64 ca) ∧ wd.cell? ⟨w5.heap.size, 1, none⟩ = some (.int .i64 v) ∧ wd.cell? ⟨w5.heap.size, 2, none⟩ = some (.slice none 0 0) ∧ wd.cell? ⟨w.heap.size + 1 + 1, 0, none⟩ = some (.int .i64 pi) ∧ wd.cell? ⟨w.heap.size + 1 + 1, 1, none⟩ = some (.int .i64 pj) ∧ wd.cell? ⟨w.heap.size + 1 + 1, 2, none⟩ = some (.int .i64 v) ∧ wd.cell? ⟨w.heap.size + 1 + 1, 3, none⟩ = some (.int .i64 pk) ∧ wd.cell? ⟨w.heap.size + 1 + 1, 4, none⟩ = some (.int .i64 pa) := ⟨(hO5.cell (p := ⟨w.heap.size, 0, none⟩) l_s).trans c6_s0, (hO5.cell (p := ⟨w.heap.size, 1, none⟩) l_s).trans c6_s1, (hO5.cell (p := ⟨w.heap.size, 2, none⟩) l_s).trans c6_s2, (hO5.cell (p := ⟨w.heap.size, 3, none⟩) l_s).trans c6_s3, (hO5.cell (p := ⟨w5.heap.size, 0, none⟩) l_A).trans c6_A0, (hO5.cell (p := ⟨w5.heap.size, 1, none⟩) l_A).trans c6_A1, (hO5.cell (p := ⟨w5.heap.size, 2, none⟩) l_A).trans c6_A2, (hO5.cell (p := ⟨w.heap.size + 1 + 1, 0, none⟩) l_p).trans c6_p0, (hO5.cell (p := ⟨w.heap.size + 1 + 1, 1, none⟩) l_p).trans c6_p1, (hO5.cell (p := ⟨w.heap.size + 1 + 1, 2, none⟩) l_p).trans c6_p2, (hO5.cell (p := ⟨w.heap.size + 1 + 1, 3, none⟩) l_p).trans c6_p3, (hO5.cell (p := ⟨w.heap.size + 1 + 1, 4, none⟩) l_p).trans c6_p4⟩) | (go_at_call 9; (refine (H2.out _ (by first | exact hB5 | exact hB5.drew | exact hB5.alloc hB5.size _)).mono ?_); rintro e we ⟨V, rfl, hE, hb'⟩; obtain ⟨h, rfl, hu1, hu2, h_u⟩ := hE.one; simp only at h_u; have hse : wd.heap.size ≤ we.heap.size := (by have := hb'.size; (try simp at this); omega); (try have hs3 : w6.heap.size < we.heap.size := (by have := hb'.size; (try simp at this); omega)); have hB6 : Below w.heap.size w we := (by first | exact hB5.trans (hb'.mono hB5.size) | exact (hB5.alloc hB5.size _).trans (hb'.mono (by have := hB5.size; simp; omega))); have hO6 : Below w6.heap.size w6 we := (by first | exact hO5.trans (hb'.mono hO5.size) | exact (hO5.alloc hO5.size _).trans (hb'.mono (by have := hO5.size; simp; omega))); obtain ⟨hc', hf'⟩ := bcell hb'; have hS6 : we.cell? ⟨w.heap.size, 0, none⟩ = some (.int .i64 t) ∧ we.cell? ⟨w.heap.size, 1, none⟩ = some (.bool c) ∧ we.cell? ⟨w.heap.size, 2, none⟩ = some (.int .i64 x) ∧ we.cell? ⟨w.heap.size, 3, none⟩ = some (.int .i64 v) ∧ we.cell? ⟨w5.heap.size, 0, none⟩ = some (.int .i64 ca) ∧ we.cell? ⟨w5.heap.size, 1, none⟩ = some (.int .i64 v) ∧ we.cell? ⟨w5.heap.size, 2, none⟩ = some (.slice none 0 0) ∧ we.cell? ⟨w.heap.size + 1 + 1, 0, none⟩ = some (.int .i64 pi) ∧ we.cell? ⟨w.heap.size + 1 + 1, 1, none⟩ = some (.int .i64 pj) ∧ we.cell? ⟨w.heap.size + 1 + 1, 2, none⟩ = some (.int .i64 v) ∧ we.cell? ⟨w.heap.size + 1 + 1, 3, none⟩ = some (.int .i64 pk) ∧ we.cell? ⟨w.heap.size + 1 + 1, 4, none⟩ = some (.int .i64 pa) := ⟨(hO6.cell (p := ⟨w.heap.size, 0, none⟩) l_s).trans c6_s0, (hO6.cell (p := ⟨w.heap.size, 1, none⟩) l_s).trans c6_s1, (hO6.cell (p := ⟨w.heap.size, 2, none⟩) l_s).trans c6_s2, (hO6.cell (p := ⟨w.heap.size, 3, none⟩) l_s).trans c6_s3, (hO6.cell (p := ⟨w5.heap.size, 0, none⟩) l_A).trans c6_A0, (hO6.cell (p := ⟨w5.heap.size, 1, none⟩) l_A).trans c6_A1, (hO6.cell (p := ⟨w5.heap.size, 2, none⟩) l_A).trans c6_A2, (hO6.cell (p := ⟨w.heap.size + 1 + 1, 0, none⟩) l_p).trans c6_p0, (hO6.cell (p := ⟨w.heap.size + 1 + 1, 1, none⟩) l_p).trans c6_p1, (hO6.cell (p := ⟨w.heap.size + 1 + 1, 2, none⟩) l_p).trans c6_p2, (hO6.cell (p := ⟨w.heap.size + 1 + 1, 3, none⟩) l_p).trans c6_p3, (hO6.cell (p := ⟨w.heap.size + 1 + 1, 4, none⟩) l_p).trans c6_p4⟩)))
    · have hns : w6.heap.size ≤ we.heap.size := hO6.size
      have k_s := (hO6.block _ l_s).trans h_s6
      have k_A := (hO6.block _ l_A).trans h_A6
      have k_p := (hO6.block _ l_p).trans h_p6
      have hal : Below we.heap.size we (we.alloc (.cells #[.int .i64 cb, .int .i64 vb, .slice (some ⟨h, 0, none⟩) 1 1] 28)) := (Below.refl _ _).alloc (Nat.le_refl _) _
      have K_s := Lib.hid ((hal.block _ (Nat.lt_of_lt_of_le l_s hns)).trans k_s)
      have K_A := Lib.hid ((hal.block _ (Nat.lt_of_lt_of_le l_A hns)).trans k_A)
      have K_p := Lib.hid ((hal.block _ (Nat.lt_of_lt_of_le l_p hns)).trans k_p)
      have K_h := Lib.hid ((hal.block _ hu2).trans h_u)
      have KB := Lib.hid (hB6.alloc hB6.size (.cells #[.int .i64 cb, .int .i64 vb, .slice (some ⟨h, 0, none⟩) 1 1] 28))
      clear hc hf hb hS5 hc' hf' hb' hS6 hal
      go_wp2_with fail
      go_meet
      case rel => exact ⟨we.heap.size, h, rfl, Lib.hid (heap_alloc_new _ _), K_h, K_s, K_A, K_p, KB, by simp, by omega⟩
    · have hns : w6.heap.size ≤ we.heap.size := hO6.size
      have k_s := (hO6.block _ l_s).trans h_s6
      have k_A := (hO6.block _ l_A).trans h_A6
      have k_p := (hO6.block _ l_p).trans h_p6
      have hz := (hb'.block wd.heap.size (by simp)).trans (heap_alloc_new _ _)
      try simp at hu1
      have hlt : wd.heap.size < we.heap.size := lt_of_block hz
      obtain ⟨W9, HW9⟩ : ∃ W : World, Hid (W = ((we.setCell ⟨wd.heap.size, 0, none⟩ (.int .i64 cb)).setCell ⟨wd.heap.size, 1, none⟩ (.int .i64 vb)).setCell ⟨wd.heap.size, 2, none⟩ (.slice (some ⟨h, 0, none⟩) 1 1)) := ⟨_, Lib.hid rfl⟩
      obtain ⟨g1, g2, g3, g4⟩ := set_three (n := w.heap.size) hz (by omega) HW9.out
      have K_s := Lib.hid ((g4 _ (by omega)).trans k_s)
      have K_A := Lib.hid ((g4 _ (by omega)).trans k_A)
      have K_p := Lib.hid ((g4 _ (by omega)).trans k_p)
      have K_h := Lib.hid ((g4 h (by omega)).trans h_u)
      have KB := Lib.hid (hB6.trans g2)
      have G1 := Lib.hid g1
      have G3 : wd.heap.size < W9.heap.size := by omega
      rw [← HW9.out]
      clear hc hf hb hS5 hc' hf' hb' hS6 hz g1 g2 g3 g4
      go_wp2_with fail
      go_meet
      case rel => exact ⟨wd.heap.size, h, rfl, G1, K_h, K_s, K_A, K_p, KB, G3, by omega⟩
    · have hns : w6.heap.size ≤ we.heap.size := hO6.size
      have k_s := (hO6.block _ l_s).trans h_s6
      have k_A := (hO6.block _ l_A).trans h_A6
      have k_p := (hO6.block _ l_p).trans h_p6
      have hz := (hb'.block w6.heap.size hs2).trans ((hb.block w6.heap.size (by simp)).trans (heap_alloc_new _ _))
      try simp at hu1
      have hlt : w6.heap.size < we.heap.size := lt_of_block hz
      obtain ⟨W9, HW9⟩ : ∃ W : World, Hid (W = ((we.setCell ⟨w6.heap.size, 0, none⟩ (.int .i64 cb)).setCell ⟨w6.heap.size, 1, none⟩ (.int .i64 vb)).setCell ⟨w6.heap.size, 2, none⟩ (.slice (some ⟨h, 0, none⟩) 1 1)) := ⟨_, Lib.hid rfl⟩
      obtain ⟨g1, g2, g3, g4⟩ := set_three (n := w.heap.size) hz (by omega) HW9.out
      have K_s := Lib.hid ((g4 _ (by omega)).trans k_s)
      have K_A := Lib.hid ((g4 _ (by omega)).trans k_A)
      have K_p := Lib.hid ((g4 _ (by omega)).trans k_p)
      have K_h := Lib.hid ((g4 h (by omega)).trans h_u)
      have KB := Lib.hid (hB6.trans g2)
      have G1 := Lib.hid g1
      have G3 : w6.heap.size < W9.heap.size := by omega
      rw [← HW9.out]
      clear hc hf hb hS5 hc' hf' hb' hS6 hz g1 g2 g3 g4
      go_wp2_with fail
      go_meet
      case rel => exact ⟨w6.heap.size, h, rfl, G1, K_h, K_s, K_A, K_p, KB, G3, by omega⟩
  case rest =>
  obtain ⟨B, h, rfl, h_B, hE, h_s, h_A, h_p, HBC, hBl, hBg⟩ := hcut
  generalize wc = w20 at *
  have h_s20 := h_s.out
  clear h_s
  have h_A20 := h_A.out
  clear h_A
  have h_p20 := h_p.out
  clear h_p
  have h_B20 := h_B.out
  clear h_B
  have hb20 := HBC.out
  clear HBC
  have h_h20 := hE.out
  clear hE
  have hhl : h < w20.heap.size := lt_of_block h_h20
  have c20_s0 : w20.cell? ⟨w.heap.size, 0, none⟩ = some (.int .i64 t) := by rw [Lib.cell_of_heap h_s20]; rfl
  have c20_s1 : w20.cell? ⟨w.heap.size, 1, none⟩ = some (.bool c) := by rw [Lib.cell_of_heap h_s20]; rfl
  have c20_s2 : w20.cell? ⟨w.heap.size, 2, none⟩ = some (.int .i64 x) := by rw [Lib.cell_of_heap h_s20]; rfl
  have c20_s3 : w20.cell? ⟨w.heap.size, 3, none⟩ = some (.int .i64 v) := by rw [Lib.cell_of_heap h_s20]; rfl
  have c20_p0 : w20.cell? ⟨w.heap.size + 1 + 1, 0, none⟩ = some (.int .i64 pi) := by rw [Lib.cell_of_heap h_p20]; rfl
  have c20_p1 : w20.cell? ⟨w.heap.size + 1 + 1, 1, none⟩ = some (.int .i64 pj) := by rw [Lib.cell_of_heap h_p20]; rfl
  have c20_p2 : w20.cell? ⟨w.heap.size + 1 + 1, 2, none⟩ = some (.int .i64 v) := by rw [Lib.cell_of_heap h_p20]; rfl
  have c20_p3 : w20.cell? ⟨w.heap.size + 1 + 1, 3, none⟩ = some (.int .i64 pk) := by rw [Lib.cell_of_heap h_p20]; rfl
  have c20_p4 : w20.cell? ⟨w.heap.size + 1 + 1, 4, none⟩ = some (.int .i64 pa) := by rw [Lib.cell_of_heap h_p20]; rfl
  have c20_B0 : w20.cell? ⟨B, 0, none⟩ = some (.int .i64 cb) := by rw [Lib.cell_of_heap h_B20]; rfl
  have c20_B1 : w20.cell? ⟨B, 1, none⟩ = some (.int .i64 vb) := by rw [Lib.cell_of_heap h_B20]; rfl
  have c20_B2 : w20.cell? ⟨B, 2, none⟩ = some (.slice (some ⟨h, 0, none⟩) 1 1) := by rw [Lib.cell_of_heap h_B20]; rfl
  have c20_A0 : w20.cell? ⟨w5.heap.size, 0, none⟩ = some (.int .i64 ca) := by rw [Lib.cell_of_heap h_A20]; rfl
  have c20_A1 : w20.cell? ⟨w5.heap.size, 1, none⟩ = some (.int .i64 v) := by rw [Lib.cell_of_heap h_A20]; rfl
  have c20_A2 : w20.cell? ⟨w5.heap.size, 2, none⟩ = some (.slice none 0 0) := by rw [Lib.cell_of_heap h_A20]; rfl
  go_wp2_with fail
  have l_s : w.heap.size < w20.heap.size := by omega
  have l_p : w.heap.size + 1 + 1 < w20.heap.size := by omega
  have l_B : B < w20.heap.size := by omega
  have l_A : w5.heap.size < w20.heap.size := by omega
  have hbd := hb20.drew
  go_region_held3 (fun X => X.cell? ⟨w.heap.size, 0, none⟩ = some (.int .i64 t) ∧ X.cell? ⟨w.heap.size, 1, none⟩ = some (.bool c) ∧ X.cell? ⟨w.heap.size, 2, none⟩ = some (.int .i64 x) ∧ X.cell? ⟨w.heap.size, 3, none⟩ = some (.int .i64 v) ∧ X.cell? ⟨w.heap.size + 1 + 1, 0, none⟩ = some (.int .i64 pi) ∧ X.cell? ⟨w.heap.size + 1 + 1, 1, none⟩ = some (.int .i64 pj) ∧ X.cell? ⟨w.heap.size + 1 + 1, 2, none⟩ = some (.int .i64 v) ∧ X.cell? ⟨w.heap.size + 1 + 1, 3, none⟩ = some (.int .i64 pk) ∧ X.cell? ⟨w.heap.size + 1 + 1, 4, none⟩ = some (.int .i64 pa) ∧ X.cell? ⟨B, 0, none⟩ = some (.int .i64 cb) ∧ X.cell? ⟨B, 1, none⟩ = some (.int .i64 vb) ∧ X.cell? ⟨B, 2, none⟩ = some (.slice (some ⟨h, 0, none⟩) 1 1) ∧ X.cell? ⟨w5.heap.size, 0, none⟩ = some (.int .i64 ca) ∧ X.cell? ⟨w5.heap.size, 1, none⟩ = some (.int .i64 v) ∧ X.cell? ⟨w5.heap.size, 2, none⟩ = some (.slice none 0 0)) (first | exact hS6 | exact hS5 | go_keep) ((first | (go_at_call 9; (refine (H2.out _ hbd).mono ?_); rintro e wd ⟨V, rfl, hE, hb⟩; have hO5 : Below w20.heap.size w20 wd := ((Below.refl _ _).drew.trans hb); obtain ⟨h', rfl, -, -, h_u⟩ := hE.one; simp only at h_u; have h_v := (hb.block h (by show h < w20.heap.size; omega)).trans h_h20; have hS5 : wd.cell? ⟨w.heap.size, 0, none⟩ = some (.int .i64 t) ∧ wd.cell? ⟨w.heap.size, 1, none⟩ = some (.bool c) ∧ wd.cell? ⟨w.heap.size, 2, none⟩ = some (.int .i64 x) ∧ wd.cell? ⟨w.heap.size, 3, none⟩ = some (.int .i64 v) ∧ wd.cell? ⟨w.heap.size + 1 + 1, 0, none⟩ = some (.int .i64 pi) ∧ wd.cell? ⟨w.heap.size + 1 + 1, 1, none⟩ = some (.int .i64 pj) ∧ wd.cell? ⟨w.heap.size + 1 + 1, 2, none⟩ = some (.int .i64 v) ∧ wd.cell? ⟨w.heap.size + 1 + 1, 3, none⟩ = some (.int .i64 pk) ∧ wd.cell? ⟨w.heap.size + 1 + 1, 4, none⟩ = some (.int .i64 pa) ∧ wd.cell? ⟨B, 0, none⟩ = some (.int .i64 cb) ∧ wd.cell? ⟨B, 1, none⟩ = some (.int .i64 vb) ∧ wd.cell? ⟨B, 2, none⟩ = some (.slice (some ⟨h, 0, none⟩) 1 1) ∧ wd.cell? ⟨w5.heap.size, 0, none⟩ = some (.int .i64 ca) ∧ wd.cell? ⟨w5.heap.size, 1, none⟩ = some (.int .i64 v) ∧ wd.cell? ⟨w5.heap.size, 2, none⟩ = some (.slice none 0 0) := ⟨(hO5.cell (p := ⟨w.heap.size, 0, none⟩) l_s).trans c20_s0, (hO5.cell (p := ⟨w.heap.size, 1, none⟩) l_s).trans c20_s1, (hO5.cell (p := ⟨w.heap.size, 2, none⟩) l_s).trans c20_s2, (hO5.cell (p := ⟨w.heap.size, 3, none⟩) l_s).trans c20_s3, (hO5.cell (p := ⟨w.heap.size + 1 + 1, 0, none⟩) l_p).trans c20_p0, (hO5.cell (p := ⟨w.heap.size + 1 + 1, 1, none⟩) l_p).trans c20_p1, (hO5.cell (p := ⟨w.heap.size + 1 + 1, 2, none⟩) l_p).trans c20_p2, (hO5.cell (p := ⟨w.heap.size + 1 + 1, 3, none⟩) l_p).trans c20_p3, (hO5.cell (p := ⟨w.heap.size + 1 + 1, 4, none⟩) l_p).trans c20_p4, (hO5.cell (p := ⟨B, 0, none⟩) l_B).trans c20_B0, (hO5.cell (p := ⟨B, 1, none⟩) l_B).trans c20_B1, (hO5.cell (p := ⟨B, 2, none⟩) l_B).trans c20_B2, (hO5.cell (p := ⟨w5.heap.size, 0, none⟩) l_A).trans c20_A0, (hO5.cell (p := ⟨w5.heap.size, 1, none⟩) l_A).trans c20_A1, (hO5.cell (p := ⟨w5.heap.size, 2, none⟩) l_A).trans c20_A2⟩) | (go_at_call 11; (refine (HS.out _ _ _ h_v h_u).mono ?_); rintro e we ⟨rfl, hb'⟩; have hO6 : Below w20.heap.size w20 we := (hO5.trans (hb'.mono hO5.size)); have hS6 : we.cell? ⟨w.heap.size, 0, none⟩ = some (.int .i64 t) ∧ we.cell? ⟨w.heap.size, 1, none⟩ = some (.bool c) ∧ we.cell? ⟨w.heap.size, 2, none⟩ = some (.int .i64 x) ∧ we.cell? ⟨w.heap.size, 3, none⟩ = some (.int .i64 v) ∧ we.cell? ⟨w.heap.size + 1 + 1, 0, none⟩ = some (.int .i64 pi) ∧ we.cell? ⟨w.heap.size + 1 + 1, 1, none⟩ = some (.int .i64 pj) ∧ we.cell? ⟨w.heap.size + 1 + 1, 2, none⟩ = some (.int .i64 v) ∧ we.cell? ⟨w.heap.size + 1 + 1, 3, none⟩ = some (.int .i64 pk) ∧ we.cell? ⟨w.heap.size + 1 + 1, 4, none⟩ = some (.int .i64 pa) ∧ we.cell? ⟨B, 0, none⟩ = some (.int .i64 cb) ∧ we.cell? ⟨B, 1, none⟩ = some (.int .i64 vb) ∧ we.cell? ⟨B, 2, none⟩ = some (.slice (some ⟨h, 0, none⟩) 1 1) ∧ we.cell? ⟨w5.heap.size, 0, none⟩ = some (.int .i64 ca) ∧ we.cell? ⟨w5.heap.size, 1, none⟩ = some (.int .i64 v) ∧ we.cell? ⟨w5.heap.size, 2, none⟩ = some (.slice none 0 0) := ⟨(hO6.cell (p := ⟨w.heap.size, 0, none⟩) l_s).trans c20_s0, (hO6.cell (p := ⟨w.heap.size, 1, none⟩) l_s).trans c20_s1, (hO6.cell (p := ⟨w.heap.size, 2, none⟩) l_s).trans c20_s2, (hO6.cell (p := ⟨w.heap.size, 3, none⟩) l_s).trans c20_s3, (hO6.cell (p := ⟨w.heap.size + 1 + 1, 0, none⟩) l_p).trans c20_p0, (hO6.cell (p := ⟨w.heap.size + 1 + 1, 1, none⟩) l_p).trans c20_p1, (hO6.cell (p := ⟨w.heap.size + 1 + 1, 2, none⟩) l_p).trans c20_p2, (hO6.cell (p := ⟨w.heap.size + 1 + 1, 3, none⟩) l_p).trans c20_p3, (hO6.cell (p := ⟨w.heap.size + 1 + 1, 4, none⟩) l_p).trans c20_p4, (hO6.cell (p := ⟨B, 0, none⟩) l_B).trans c20_B0, (hO6.cell (p := ⟨B, 1, none⟩) l_B).trans c20_B1, (hO6.cell (p := ⟨B, 2, none⟩) l_B).trans c20_B2, (hO6.cell (p := ⟨w5.heap.size, 0, none⟩) l_A).trans c20_A0, (hO6.cell (p := ⟨w5.heap.size, 1, none⟩) l_A).trans c20_A1, (hO6.cell (p := ⟨w5.heap.size, 2, none⟩) l_A).trans c20_A2⟩)))
  clear l_s
  clear l_p
  clear l_B
  clear l_A
  have hb := hO6
  clear hO6 hS6 hS5 hO5 hb' hbd
  generalize we = w21 at *
  clear c20_s0 c20_s1 c20_s2 c20_s3 c20_p0 c20_p1 c20_p2 c20_p3 c20_p4 c20_B0 c20_B1 c20_B2 c20_A0 c20_A1 c20_A2
  have h_s21 := (hb.block (w.heap.size) (by omega)).trans h_s20
  have h_A21 := (hb.block (w5.heap.size) (by omega)).trans h_A20
  have h_p21 := (hb.block (w.heap.size + 1 + 1) (by omega)).trans h_p20
  have h_B21 := (hb.block (B) (by omega)).trans h_B20
  have hb21 : Below w.heap.size w w21 := hb20.trans (hb.mono (by omega))
  have hz21 : w20.heap.size ≤ w21.heap.size := hb.size
  clear hb
  have c21_p2 : w21.cell? ⟨w.heap.size + 1 + 1, 2, none⟩ = some (.int .i64 v) := by rw [Lib.cell_of_heap h_p21]; rfl
  have f21_p : ∀ i, w21.frozen? ⟨w.heap.size + 1 + 1, i, none⟩ = false := fun i => Lib.frozen_of_heap h_p21 i
  obtain ⟨w22, HX22⟩ : ∃ W : World, Hid (W = w21.setCell ⟨w.heap.size + 1 + 1, 2, none⟩ (.int .i64 (-1))) := ⟨_, Lib.hid rfl⟩
  obtain ⟨h_p22, hbl, hzz, hoth⟩ := set_ex (n := w.heap.size) h_p21 (by omega) HX22.out
  have h_s22 := (hoth (w.heap.size) (by omega)).trans h_s21
  have h_A22 := (hoth (w5.heap.size) (by omega)).trans h_A21
  have h_B22 := (hoth (B) (by omega)).trans h_B21
  have hb22 := hb21.trans hbl
  have hz22 : w21.heap.size ≤ w22.heap.size := by omega
  clear hbl hzz hoth
  have c22_s0 : w22.cell? ⟨w.heap.size, 0, none⟩ = some (.int .i64 t) := by rw [Lib.cell_of_heap h_s22]; rfl
  have c22_s1 : w22.cell? ⟨w.heap.size, 1, none⟩ = some (.bool c) := by rw [Lib.cell_of_heap h_s22]; rfl
  have c22_s2 : w22.cell? ⟨w.heap.size, 2, none⟩ = some (.int .i64 x) := by rw [Lib.cell_of_heap h_s22]; rfl
  have c22_s3 : w22.cell? ⟨w.heap.size, 3, none⟩ = some (.int .i64 v) := by rw [Lib.cell_of_heap h_s22]; rfl
  have c22_p0 : w22.cell? ⟨w.heap.size + 1 + 1, 0, none⟩ = some (.int .i64 pi) := by rw [Lib.cell_of_heap h_p22]; rfl
  have c22_p1 : w22.cell? ⟨w.heap.size + 1 + 1, 1, none⟩ = some (.int .i64 pj) := by rw [Lib.cell_of_heap h_p22]; rfl
  have c22_p2 : w22.cell? ⟨w.heap.size + 1 + 1, 2, none⟩ = some (.int .i64 (-1)) := by rw [Lib.cell_of_heap h_p22]; rfl
  have c22_p3 : w22.cell? ⟨w.heap.size + 1 + 1, 3, none⟩ = some (.int .i64 pk) := by rw [Lib.cell_of_heap h_p22]; rfl
  have c22_p4 : w22.cell? ⟨w.heap.size + 1 + 1, 4, none⟩ = some (.int .i64 pa) := by rw [Lib.cell_of_heap h_p22]; rfl
  go_wp2_with (rw [← HX22.out])
  refine (H3.out _ hb22).mono ?_
  rintro e w23 ⟨V, rfl, hE, hb⟩
  clear c21_p2 f21_p c22_s0 c22_s1 c22_s2 c22_s3 c22_p0 c22_p1 c22_p2 c22_p3 c22_p4
  have h_s23 := (hb.block (w.heap.size) (by omega)).trans h_s22
  have h_A23 := (hb.block (w5.heap.size) (by omega)).trans h_A22
  have h_p23 := (hb.block (w.heap.size + 1 + 1) (by omega)).trans h_p22
  have h_B23 := (hb.block (B) (by omega)).trans h_B22
  have hb23 : Below w.heap.size w w23 := hb22.trans (hb.mono (by omega))
  have hz23 : w22.heap.size ≤ w23.heap.size := hb.size
  clear hb
  rcases hE with ⟨rfl, rfl⟩ | ⟨e0, g0, rfl, rfl, -, -⟩
  · obtain ⟨w24, HX24⟩ : ∃ W : World, Hid (W = w23.alloc (.cells #[.int .i64 cc, .int .i64 vc, .slice none 0 0] 28)) := ⟨_, Lib.hid rfl⟩
    have hb : Below w23.heap.size w23 w24 := by rw [HX24.out]; exact (Below.refl _ _).alloc (Nat.le_refl _) _
    have h_c24 : w24.heap[w23.heap.size]? = some (.cells #[.int .i64 cc, .int .i64 vc, .slice none 0 0] 28 (0, 0)) := by rw [HX24.out]; exact heap_alloc_new _ _
    have hy24 : w23.heap.size < w24.heap.size := by rw [HX24.out]; simp
    have h_s24 := (hb.block (w.heap.size) (by omega)).trans h_s23
    have h_A24 := (hb.block (w5.heap.size) (by omega)).trans h_A23
    have h_p24 := (hb.block (w.heap.size + 1 + 1) (by omega)).trans h_p23
    have h_B24 := (hb.block (B) (by omega)).trans h_B23
    have hb24 : Below w.heap.size w w24 := hb23.trans (hb.mono (by omega))
    have hz24 : w23.heap.size ≤ w24.heap.size := hb.size
    clear hb
    have c24_A0 : w24.cell? ⟨w5.heap.size, 0, none⟩ = some (.int .i64 ca) := by rw [Lib.cell_of_heap h_A24]; rfl
    have c24_c0 : w24.cell? ⟨w23.heap.size, 0, none⟩ = some (.int .i64 cc) := by rw [Lib.cell_of_heap h_c24]; rfl
    go_wp2_with (rw [← HX24.out])
    refine (HW.out _ hb24).mono ?_
    rintro e w25 ⟨rfl, hb⟩
    clear c24_A0 c24_c0
    have h_s25 := (hb.block (w.heap.size) (by omega)).trans h_s24
    have h_A25 := (hb.block (w5.heap.size) (by omega)).trans h_A24
    have h_p25 := (hb.block (w.heap.size + 1 + 1) (by omega)).trans h_p24
    have h_B25 := (hb.block (B) (by omega)).trans h_B24
    have h_c25 := (hb.block (w23.heap.size) (by omega)).trans h_c24
    have hb25 : Below w.heap.size w w25 := hb24.trans (hb.mono (by omega))
    have hz25 : w24.heap.size ≤ w25.heap.size := hb.size
    clear hb
    go_wp2_with fail
    all_goals
      go_ret
      exact ⟨rfl, hb25⟩
  · obtain ⟨w24, HX24⟩ : ∃ W : World, Hid (W = w23.alloc (.cells #[.int .i64 cc, .int .i64 vc, .slice (some ⟨g0, 0, none⟩) 1 1] 28)) := ⟨_, Lib.hid rfl⟩
    have hb : Below w23.heap.size w23 w24 := by rw [HX24.out]; exact (Below.refl _ _).alloc (Nat.le_refl _) _
    have h_c24 : w24.heap[w23.heap.size]? = some (.cells #[.int .i64 cc, .int .i64 vc, .slice (some ⟨g0, 0, none⟩) 1 1] 28 (0, 0)) := by rw [HX24.out]; exact heap_alloc_new _ _
    have hy24 : w23.heap.size < w24.heap.size := by rw [HX24.out]; simp
    have h_s24 := (hb.block (w.heap.size) (by omega)).trans h_s23
    have h_A24 := (hb.block (w5.heap.size) (by omega)).trans h_A23
    have h_p24 := (hb.block (w.heap.size + 1 + 1) (by omega)).trans h_p23
    have h_B24 := (hb.block (B) (by omega)).trans h_B23
    have hb24 : Below w.heap.size w w24 := hb23.trans (hb.mono (by omega))
    have hz24 : w23.heap.size ≤ w24.heap.size := hb.size
    clear hb
    have c24_A0 : w24.cell? ⟨w5.heap.size, 0, none⟩ = some (.int .i64 ca) := by rw [Lib.cell_of_heap h_A24]; rfl
    have c24_c0 : w24.cell? ⟨w23.heap.size, 0, none⟩ = some (.int .i64 cc) := by rw [Lib.cell_of_heap h_c24]; rfl
    go_wp2_with (rw [← HX24.out])
    refine (HW.out _ hb24).mono ?_
    rintro e w25 ⟨rfl, hb⟩
    clear c24_A0 c24_c0
    have h_s25 := (hb.block (w.heap.size) (by omega)).trans h_s24
    have h_A25 := (hb.block (w5.heap.size) (by omega)).trans h_A24
    have h_p25 := (hb.block (w.heap.size + 1 + 1) (by omega)).trans h_p24
    have h_B25 := (hb.block (B) (by omega)).trans h_B24
    have h_c25 := (hb.block (w23.heap.size) (by omega)).trans h_c24
    have hb25 : Below w.heap.size w w25 := hb24.trans (hb.mono (by omega))
    have hz25 : w24.heap.size ≤ w25.heap.size := hb.size
    clear hb
    go_wp2_with fail
    all_goals
      go_ret
      exact ⟨rfl, hb25⟩
theorem forms (s : St) (q : Od) (hm : s.may = true) : (decide_ s q = ⟨7, s.ver, []⟩ ∨ decide_ s q = ⟨2, s.ver, []⟩ ∨ decide_ s q = ⟨3, s.ver, []⟩) ∨
    (decide_ s q = ⟨1, s.ver + 1, [evOf q]⟩ ∧ comes s (evOf q) = true ∧ (q.ex < 0 ∨ q.ex = s.ver)) := by
  unfold decide_
  rw [hm, if_neg (by decide)]
  split
  · exact .inl (.inl rfl)
  split
  · exact .inl (.inr (.inl rfl))
  rename_i h1 h2
  split
  · exact .inl (.inr (.inr rfl))
  · rename_i h3
    exact .inr ⟨rfl, by simpa using h3, by omega⟩
theorem evs_cases (s : St) (q : Od) : (∃ cd ve, decide_ s q = ⟨cd, ve, []⟩) ∨ ∃ cd ve k a, decide_ s q = ⟨cd, ve, [⟨k, a⟩]⟩ := by
  unfold decide_
  split
  · exact .inl ⟨_, _, rfl⟩
  split
  · exact .inl ⟨_, _, rfl⟩
  split
  · exact .inl ⟨_, _, rfl⟩
  split
  · exact .inl ⟨_, _, rfl⟩
  · exact .inr ⟨_, _, _, _, rfl⟩
theorem no2 {s : St} {q : Od} (h : ¬ (0 ≤ q.ex ∧ q.ex ≠ s.ver)) : (decide_ s q).code ≠ 2 := by
  unfold decide_
  split
  · simp
  split
  · simp
  split
  · simp
  · simp
theorem walk (s : St) (q r : Od) (w : World) (hA : Asked w) (_ : s.ints) (_ : q.ints) (_ : r.ints) : Calls Tryd.prog 7 #[s.v, q.v, r.v] w (fun e w' => e = .returned (.bool true) ∧ Below w.heap.size w w') := by
  have hM := fun X => lm_any s X
  have HAK := Lib.hid (fun X (hb : Below w.heap.size w X) => hA.keep hb)
  cases hm : s.may
  · rw [hm] at hM
    exact bad s.tag s.cl s.sum s.ver q.id q.st q.ex q.ki q.ar r.id r.st r.ex r.ki r.ar w HAK (Lib.hid hM)
  rw [hm] at hM
  have hv : 0 ≤ s.ver := by have := (may_iff _).1 hm; omega
  have h1 := fun X (hb : Below w.heap.size w X) => decide_any s ⟨q.id, q.st, s.ver, q.ki, q.ar⟩ X (hA.keep hb)
  have h3 := fun X (hb : Below w.heap.size w X) => decide_any s ⟨r.id, r.st, -1, r.ki, r.ar⟩ X (hA.keep hb)
  have hc2 := no2 (s := s) (q := ⟨r.id, r.st, -1, r.ki, r.ar⟩) (fun h => by have := h.1; simp at this)
  generalize decide_ s ⟨r.id, r.st, -1, r.ki, r.ar⟩ = rc at *
  obtain ⟨cc, vc, evc⟩ := rc
  have f4 : (cc != 2) = true := by simpa using hc2
  have ha2 := no2 (s := s) (q := ⟨q.id, q.st, s.ver, q.ki, q.ar⟩) (fun h => h.2 rfl)
  have main : (∃ ca, (ca = 7 ∨ ca = 3) ∧ decide_ s ⟨q.id, q.st, s.ver, q.ki, q.ar⟩ = ⟨ca, s.ver, []⟩) ∨ ∃ e, decide_ s ⟨q.id, q.st, s.ver, q.ki, q.ar⟩ = ⟨1, s.ver + 1, [e]⟩ ∧ lets s e = true := by
    rcases forms s ⟨q.id, q.st, s.ver, q.ki, q.ar⟩ hm with (h | h | h) | ⟨h, hc, _⟩
    · exact .inl ⟨7, .inl rfl, h⟩
    · rw [h] at ha2; exact absurd rfl ha2
    · exact .inl ⟨3, .inr rfl, h⟩
    · exact .inr ⟨_, h, (lets_iff _ _).2 ⟨hm, hc⟩⟩
  rcases main with ⟨ca, hca, h⟩ | ⟨⟨k1, a1⟩, h, hl⟩
  · rw [h] at h1
    have f1 : (ca == 1) = false := by rcases hca with rfl | rfl <;> rfl
    have f2 : (ca != 1) = true := by rcases hca with rfl | rfl <;> rfl
    have f3 : (ca != 2) = true := by rcases hca with rfl | rfl <;> rfl
    have h2 := fun X (hb : Below w.heap.size w X) => decide_any s ⟨r.id, r.st, s.ver, r.ki, r.ar⟩ X (hA.keep hb)
    have hT := fun X => tail_any s ca s.ver [] _ 0 X (.inl ⟨rfl, rfl⟩)
    rcases evs_cases s ⟨r.id, r.st, s.ver, r.ki, r.ar⟩ with ⟨cb, vb, hb⟩ | ⟨cb, vb, k2, a2, hb⟩
    · rw [hb] at h2
      exact no_nil s.tag s.cl s.sum s.ver q.id q.st q.ex q.ki q.ar r.id r.st r.ex r.ki r.ar ca cb vb cc vc evc 0 w HAK (Lib.hid hM) (Lib.hid h1) (Lib.hid hT) (Lib.hid h2) (Lib.hid h3) f1 f2 f3 f4
    · rw [hb] at h2
      exact no_one s.tag s.cl s.sum s.ver q.id q.st q.ex q.ki q.ar r.id r.st r.ex r.ki r.ar ca cb vb cc vc k2 a2 evc 0 w HAK (Lib.hid hM) (Lib.hid h1) (Lib.hid hT) (Lib.hid h2) (Lib.hid h3) f1 f2 f3 f4
  · rw [h] at h1
    have hT := fun X g (hg : X.heap[g]? = some (.cells #[.int .i64 k1, .int .i64 a1] 32 (0, 0))) => tail_any s 1 (s.ver + 1) [⟨k1, a1⟩] _ 0 X (.inr ⟨⟨k1, a1⟩, g, rfl, rfl, Nat.zero_le _, hg⟩)
    rw [show apps s [⟨k1, a1⟩] = next s ⟨k1, a1⟩ from app_yes hl] at hT
    have h2 := fun X (hb : Below w.heap.size w X) => decide_any (next s ⟨k1, a1⟩) ⟨r.id, r.st, s.ver, r.ki, r.ar⟩ X (hA.keep hb)
    cases hr : (Od.mk r.id r.st s.ver r.ki r.ar).may
    · rw [show decide_ (next s ⟨k1, a1⟩) ⟨r.id, r.st, s.ver, r.ki, r.ar⟩ = ⟨7, s.ver + 1, []⟩ by unfold decide_; rw [next_may hl, if_neg (by decide), hr, if_pos rfl]; rfl] at h2
      exact yes7 s.tag s.cl s.sum s.ver q.id q.st q.ex q.ki q.ar r.id r.st r.ex r.ki r.ar k1 a1 _ _ (s.ver + 1) cc vc _ evc 0 w HAK (Lib.hid hM) (Lib.hid h1) (Lib.hid hT) (Lib.hid h2) (Lib.hid h3) f4
    · rw [show decide_ (next s ⟨k1, a1⟩) ⟨r.id, r.st, s.ver, r.ki, r.ar⟩ = ⟨2, s.ver + 1, []⟩ by unfold decide_; rw [next_may hl, if_neg (by decide), hr, if_neg (by decide), if_pos ⟨hv, by simp only [next]; omega⟩]; rfl] at h2
      exact yes2 s.tag s.cl s.sum s.ver q.id q.st q.ex q.ki q.ar r.id r.st r.ex r.ki r.ar k1 a1 _ _ (s.ver + 1) cc vc _ evc 0 w HAK (Lib.hid hM) (Lib.hid h1) (Lib.hid hT) (Lib.hid h2) (Lib.hid h3) f4
end Go.Proofs.YtpboleiifmepeaaDoor.deedsExpectW
