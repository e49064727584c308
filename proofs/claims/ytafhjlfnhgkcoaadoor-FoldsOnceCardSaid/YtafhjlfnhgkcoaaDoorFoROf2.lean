/-
  Of of the document (folds): the walk.
-/
import Derived.Test.YtafhjlfnhgkcoaaDoorFoROf
namespace Go.Proofs.YtafhjlfnhgkcoaaDoor
open Go.RowKit Go.Sort Go.Maps
theorem findR_some {l : List En} {id : Int} {k : Nat} (h : firstAt l id = some k) : findR l id = ((k : Int), true) := by unfold findR; rw [h]
theorem findR_none {l : List En} {id : Int} (h : firstAt l id = none) : findR l id = (0, false) := by unfold findR; rw [h]
theorem below_grow {w w' : World} {row : Option Nat} {B : Nat} (h : w.grownBy w' row) (hB : ∀ q, q < B → row ≠ some q) (hz : B ≤ w.heap.size) : Below B w w' :=
  ⟨h.os, h.tape, h.output, h.size, fun q hq => h.block q (by omega) (fun e => hB q hq e.symm)⟩
set_option maxRecDepth 100000 in
set_option maxHeartbeats 8000000 in
theorem rof_any {v : Value} {B : Nat} {es : List En} {w : World} (ha : EsB B w v es) (hB : B ≤ w.heap.size) (hn : es.length ≤ 100000) : Calls Tryd.prog 12 #[v] w (fun e w' => ∃ V, e = .returned (.tuple #[(foldL es).1.v, V]) ∧ OcsB w.heap.size w'.heap.size w' V (foldL es).2 ∧ Below w.heap.size w w') := by
  have HCA := Lib.hid (fun X (hX : Below w.heap.size w X) k (hk : k < es.length) => EsB.cells (RdB.below ha hX hB) hk)
  have HTK := Lib.hid (fun X (hX : Below w.heap.size w X) => (RdB.below ha hX hB : EsB B X v es))
  obtain ⟨A, ca, rfl, h1, h2, -⟩ := ha.len
  have hl : es.length ≤ maxLen := by omega
  unfold maxLen at hl
  clear ha
  go_enter Tryd.func12, Tryd.ntmps12
  go_wp2
  go_loopw [5, 6] (fun l i wr => ∃ k : Nat, k ≤ es.length ∧ i = .int .i64 k ∧ ROfI w es k l wr) (fun _ i _ => es.length - (intOf i).toNat)
  case atStart => exact ⟨0, Nat.zero_le _, rfl, rofI_start rfl⟩
  case round =>
    obtain ⟨k, hk, rfl, hI⟩ := hrel
    by_cases hlt : k < es.length
    · obtain ⟨b1, o1, c1, hv1, hb1, x0, x1, x2, x3, x4, x5⟩ := HCA.out wr hI.bel k hlt
      injection hv1 with e1 _ e3
      subst e1 e3
      have hii : (k : Int) < (es.length : Int) := by omega
      have hbI := hI.bel
      have hsI := hI.size
      have HFI : Hid (∀ d os, Calls Tryd.prog 17 #[.slice (some ⟨b1, o1, none⟩) k ca, .int .i64 es[k].o.id] (grow (redrawn wr d) os) fun e w'' => e = .returned (.tuple #[.int .i64 (findR (es.take k) es[k].o.id).1, .bool (findR (es.take k) es[k].o.id).2]) ∧ ∃ p : Regrown, w'' = grow (redrawn wr p.d) p.os) := Lib.hid fun d os => by
        have hb := below_regrown wr d os
        exact Calls.regrown_of (rfind_any _ (EsB.take (HTK.out _ (hbI.trans (hb.mono hbI.size))) hk) (Nat.le_trans hB (Nat.le_trans hbI.size hb.size)))
      have HI := Lib.hid hI
      obtain ⟨ps, hps, ho⟩ := hI.own
      have hpl : ps.length = k := by have := congrArg List.length hps; rw [upTo_len hk] at this; simpa using this
      have hres := hI.res
      have hst := hI.st
      clear HTK HCA hI
      cases hf : firstAt (es.take k) es[k].o.id with
      | some j =>
        rw [findR_some hf] at HFI
        have hu := Lib.hid (upTo_hit hlt hf)
        have hjk : j < k := by have := firstAt_lt hf; simp at this; omega
        clear hf
        obtain ⟨g, c, rfl, hgb, hgl, hgc, hgm, hcell⟩ := ho.shape (by omega)
        obtain ⟨a0, a1, -⟩ := hcell j (by omega)
        have hx : ps[j].1 = (upTo es k).2.getD j oc0 := by
          rw [← hps, List.getD_eq_getElem?_getD, List.getElem?_map, List.getElem?_eq_getElem (by omega)]; rfl
        rw [hx] at a0 a1
        clear hx hcell
        have HO := Lib.hid ho
        have HP := Lib.hid hps
        clear ho hps
        rw [hpl]
        generalize es[k].o.id = z1 at *
        generalize (upTo es k).2.getD j oc0 = x at *
        obtain ⟨xc, xv, xe⟩ := x
        dsimp only at a0 a1
        clear x0 x2 x3 x4 x5
        have k1 : ∀ d' os, (grow (redrawn wr d') os).cell? ⟨b1, o1 + k * 6 + 1, none⟩ = some (.int .i64 z1) := fun d' os => cell_regrown x1 d' os
        have hkc : k ≤ ca := by omega
        go_wp2_with fail
        refine wp_region_quiet_below (by kernel_rfl) (by kernel_rfl) ?_
        repeat (go_big_quiet_step (with_reducible exact HFI.out _ _))
        refine wpQuiet_nil ?_
        intro _ hw'
        obtain ⟨⟨dq, osq⟩, hw''⟩ := hw'
        subst hw''
        have hb1' := below_regrown wr dq osq
        generalize grow (redrawn wr dq) osq = w1 at *
        clear k1 HFI x1
        have hs1 := hb1'.size
        have c0 := (hb1'.cell (p := ⟨g, j * 3, none⟩) hgl).trans a0
        have c1 := (hb1'.cell (p := ⟨g, j * 3 + 1, none⟩) hgl).trans a1
        have hal : Below w1.heap.size w1 (w1.drew.alloc (.cells #[.int .i64 xc, .int .i64 xv, .slice none 0 0] 33)) := (Below.refl _ _).drew.alloc (Nat.le_refl _) _
        have hrow1 := (HO.out.row.kept (below_grown hb1' (Nat.le_refl _)) (.inr (by simp [Value.ownBlock]))).kept (below_grown hal (Nat.le_refl _)) (.inr (by simp [Value.ownBlock]))
        obtain ⟨v', w3, hr, hown, hgr⟩ := oc_append (g := w1.heap.size) hrow1 (heap_alloc_new w1.drew _) rfl (by simp; omega) (by omega)
        have hz3 := hgr.size
        replace hz3 : w1.heap.size + 1 ≤ w3.heap.size := by simpa using hz3
        have hown' := Lib.hid hown
        have hgr' := Lib.hid hgr
        have hal' := Lib.hid hal
        rw [hpl] at hr
        have HAP := Lib.hid hr
        have hjj : (j : Int) < (k : Int) := by omega
        have hb1 := Lib.hid hb1'
        clear hr hown hgr hal hrow1 a0 a1 hb1'
        go_wp2_with fail
        go_region_law (refine step_append_known rfl _ _ 26 26 rfl (.slice (some ⟨g, 0, none⟩) k c) (.slice (some ⟨w1.heap.size, 0, none⟩) 1 1) (by simp [Act.eval]) (by simp [Act.eval]) HAP.out ?_)
        all_goals
          go_wp2_with fail
          go_roundw --HIT
          case measure => simp [intOf]; omega
          case rel =>
            have hq : ∀ q, q < wr.heap.size → q ≠ g → w3.heap[q]? = wr.heap[q]? := fun q h1 h2 => (hgr'.out.block q (by simp; omega) (by simp [Value.ownBlock]; omega)).trans ((hal'.out.block q (by omega)).trans (hb1.out.block q h1))
            have hbl : Below w.heap.size w w3 := ((hbI.trans (hb1.out.mono (by omega))).trans (hal'.out.mono (by omega))).trans (below_grow hgr'.out (fun q h1 e => by simp [Value.ownBlock] at e; omega) (by simp; omega))
            exact ⟨k + 1, by omega, by go_num, rofI_next HI.out HP.out HO.out hu.out hbl (by omega) (fun q h1 _ h3 => hq q h1 fun e => h3 (by rw [e]; rfl)) ((hq _ (by omega) (by omega)).trans hst) hown'.out (.inl ⟨rfl, rfl⟩)⟩
      | none =>
        rw [findR_none hf] at HFI
        have hu := Lib.hid (upTo_miss hlt hf)
        clear hf
        have HDC := Lib.hid (fun X => rdecide_any (upTo es k).1 es[k].o X)
        have HAP := Lib.hid (fun X e => rapply_any (upTo es k).1 e X)
        have hap := Lib.hid (decide_apps (upTo es k).1 es[k].o)
        have HO := Lib.hid ho
        have HP := Lib.hid hps
        clear ho hps
        generalize hs' : apps (upTo es k).1 (decide_ (upTo es k).1 es[k].o).evs = s' at *
        generalize decide_ (upTo es k).1 es[k].o = r at *
        generalize (upTo es k).1 = s at *
        clear hs'
        generalize es[k].ep = z0 at *
        generalize es[k].o = od at *
        obtain ⟨z1, z2, z3, z4, z5⟩ := od
        obtain ⟨rc, rv, re⟩ := r
        have k1 : ∀ d' os, (grow (redrawn wr d') os).cell? ⟨b1, o1 + k * 6 + 1, none⟩ = some (.int .i64 z1) := fun d' os => cell_regrown x1 d' os
        have hkc : k ≤ ca := by omega
        go_wp2_with fail
        refine wp_region_quiet_below (by kernel_rfl) (by kernel_rfl) ?_
        repeat (go_big_quiet_step (with_reducible exact HFI.out _ _))
        refine wpQuiet_nil ?_
        intro _ hw'
        obtain ⟨⟨dq, osq⟩, hw''⟩ := hw'
        subst hw''
        have hb1' := below_regrown wr dq osq
        generalize grow (redrawn wr dq) osq = w1 at *
        clear k1 HFI
        have hs1 := hb1'.size
        have hBw : B ≤ wr.heap.size := Nat.le_trans hB hbI.size
        have y1 := (hb1'.cell (p := ⟨b1, o1 + k * 6 + 1, none⟩) (show b1 < wr.heap.size by omega)).trans x1
        have y2 := (hb1'.cell (p := ⟨b1, o1 + k * 6 + 2, none⟩) (show b1 < wr.heap.size by omega)).trans x2
        have y3 := (hb1'.cell (p := ⟨b1, o1 + k * 6 + 3, none⟩) (show b1 < wr.heap.size by omega)).trans x3
        have y4 := (hb1'.cell (p := ⟨b1, o1 + k * 6 + 4, none⟩) (show b1 < wr.heap.size by omega)).trans x4
        have y5 := (hb1'.cell (p := ⟨b1, o1 + k * 6 + 5, none⟩) (show b1 < wr.heap.size by omega)).trans x5
        have h_s1 := (hb1'.block (w.heap.size + 1) (by omega)).trans hst
        have hb1 := Lib.hid hb1'
        clear x0 x1 x2 x3 x4 x5 hb1' hst hres
        obtain ⟨t, c, x, v⟩ := s
        dsimp only [St.v, Od.v] at HDC HAP h_s1
        have a0 : w1.cell? ⟨w.heap.size + 1, 0, none⟩ = some (.int .i64 t) := by rw [Lib.cell_of_heap h_s1]; rfl
        have a1 : w1.cell? ⟨w.heap.size + 1, 1, none⟩ = some (.bool c) := by rw [Lib.cell_of_heap h_s1]; rfl
        have a2 : w1.cell? ⟨w.heap.size + 1, 2, none⟩ = some (.int .i64 x) := by rw [Lib.cell_of_heap h_s1]; rfl
        have a3 : w1.cell? ⟨w.heap.size + 1, 3, none⟩ = some (.int .i64 v) := by rw [Lib.cell_of_heap h_s1]; rfl
        have lb : b1 < w1.heap.size := by omega
        have ls : w.heap.size + 1 < w1.heap.size := by omega
        have n0 := World.new_ne w1.drew ⟨w.heap.size + 1, 0, none⟩ (u := .int .i64 t) a0
        have n1 := World.new_ne w1.drew ⟨w.heap.size + 1, 1, none⟩ (u := .bool c) a1
        have n2 := World.new_ne w1.drew ⟨w.heap.size + 1, 2, none⟩ (u := .int .i64 x) a2
        have n3 := World.new_ne w1.drew ⟨w.heap.size + 1, 3, none⟩ (u := .int .i64 v) a3
        have m1 := World.new_ne w1.drew ⟨b1, o1 + k * 6 + 1, none⟩ (u := .int .i64 z1) y1
        have m2 := World.new_ne w1.drew ⟨b1, o1 + k * 6 + 2, none⟩ (u := .int .i64 z2) y2
        have m3 := World.new_ne w1.drew ⟨b1, o1 + k * 6 + 3, none⟩ (u := .int .i64 z3) y3
        have m4 := World.new_ne w1.drew ⟨b1, o1 + k * 6 + 4, none⟩ (u := .int .i64 z4) y4
        have m5 := World.new_ne w1.drew ⟨b1, o1 + k * 6 + 5, none⟩ (u := .int .i64 z5) y5
        go_wp2_with fail
        rcases hap.out with ⟨he, hs'⟩ | ⟨ev, he, hlt', -, -, hs'⟩ <;> (change re = _ at he; subst he)
        · have _n := hs'
          go_cut [9] (fun u wx => ∃ (Bx : Nat), u = .pointer (some ⟨Bx, 0, none⟩) ∧ Hid (wx.heap[Bx]? = some (.cells #[.int .i64 rc, .int .i64 rv, .slice none 0 0] 33 (0, 0))) ∧ Hid (Below w1.heap.size w1 wx) ∧ w1.heap.size ≤ Bx ∧ Bx < wx.heap.size)
          case first =>
            go_region_held3 (fun X => X.cell? ⟨w.heap.size + 1, 0, none⟩ = some (.int .i64 t) ∧ X.cell? ⟨w.heap.size + 1, 1, none⟩ = some (.bool c) ∧ X.cell? ⟨w.heap.size + 1, 2, none⟩ = some (.int .i64 x) ∧ X.cell? ⟨w.heap.size + 1, 3, none⟩ = some (.int .i64 v) ∧ X.cell? ⟨b1, o1 + k * 6 + 1, none⟩ = some (.int .i64 z1) ∧ X.cell? ⟨b1, o1 + k * 6 + 2, none⟩ = some (.int .i64 z2) ∧ X.cell? ⟨b1, o1 + k * 6 + 3, none⟩ = some (.int .i64 z3) ∧ X.cell? ⟨b1, o1 + k * 6 + 4, none⟩ = some (.int .i64 z4) ∧ X.cell? ⟨b1, o1 + k * 6 + 5, none⟩ = some (.int .i64 z5)) (first | exact hS5 | go_keep | (refine ⟨?_, ?_, ?_, ?_, ?_, ?_, ?_, ?_, ?_⟩ <;> (rw [far_three (by omega)]; first | exact hS5.1 | exact hS5.2.1 | exact hS5.2.2.1 | exact hS5.2.2.2.1 | exact hS5.2.2.2.2.1 | exact hS5.2.2.2.2.2.1 | exact hS5.2.2.2.2.2.2.1 | exact hS5.2.2.2.2.2.2.2.1 | exact hS5.2.2.2.2.2.2.2.2))) ((go_at_call 23; (refine (HDC.out _).mono ?_); rintro e wd ⟨V, rfl, hE, hb⟩; obtain rfl := hE.nil; have hO5 : Below w1.heap.size w1 wd := (by first | exact (Below.refl _ _).drew.trans hb | exact ((Below.refl _ _).alloc (Nat.le_refl _) _).drew.trans (hb.mono (by simp))); obtain ⟨hc, hf⟩ := bcell hb; have hS5 : wd.cell? ⟨w.heap.size + 1, 0, none⟩ = some (.int .i64 t) ∧ wd.cell? ⟨w.heap.size + 1, 1, none⟩ = some (.bool c) ∧ wd.cell? ⟨w.heap.size + 1, 2, none⟩ = some (.int .i64 x) ∧ wd.cell? ⟨w.heap.size + 1, 3, none⟩ = some (.int .i64 v) ∧ wd.cell? ⟨b1, o1 + k * 6 + 1, none⟩ = some (.int .i64 z1) ∧ wd.cell? ⟨b1, o1 + k * 6 + 2, none⟩ = some (.int .i64 z2) ∧ wd.cell? ⟨b1, o1 + k * 6 + 3, none⟩ = some (.int .i64 z3) ∧ wd.cell? ⟨b1, o1 + k * 6 + 4, none⟩ = some (.int .i64 z4) ∧ wd.cell? ⟨b1, o1 + k * 6 + 5, none⟩ = some (.int .i64 z5) := ⟨(hO5.cell (p := ⟨w.heap.size + 1, 0, none⟩) ls).trans a0, (hO5.cell (p := ⟨w.heap.size + 1, 1, none⟩) ls).trans a1, (hO5.cell (p := ⟨w.heap.size + 1, 2, none⟩) ls).trans a2, (hO5.cell (p := ⟨w.heap.size + 1, 3, none⟩) ls).trans a3, (hO5.cell (p := ⟨b1, o1 + k * 6 + 1, none⟩) lb).trans y1, (hO5.cell (p := ⟨b1, o1 + k * 6 + 2, none⟩) lb).trans y2, (hO5.cell (p := ⟨b1, o1 + k * 6 + 3, none⟩) lb).trans y3, (hO5.cell (p := ⟨b1, o1 + k * 6 + 4, none⟩) lb).trans y4, (hO5.cell (p := ⟨b1, o1 + k * 6 + 5, none⟩) lb).trans y5⟩))
            · have hal : Below wd.heap.size wd (wd.alloc (.cells #[.int .i64 rc, .int .i64 rv, .slice none 0 0] 33)) := (Below.refl _ _).alloc (Nat.le_refl _) _
              have K1 := Lib.hid (hO5.trans (hal.mono hO5.size))
              have hns := hO5.size
              clear hc hf hb hS5 hO5
              go_wp2_with fail
              go_meet
              case rel => exact ⟨wd.heap.size, rfl, Lib.hid (heap_alloc_new _ _), K1, hns, by simp⟩
            · have hz := (hb.block w1.heap.size (by simp)).trans (heap_alloc_new _ _)
              have hlw : w1.heap.size < wd.heap.size := lt_of_block hz
              obtain ⟨W9, HW9⟩ : ∃ W : World, Hid (W = ((wd.setCell ⟨w1.heap.size, 0, none⟩ (.int .i64 rc)).setCell ⟨w1.heap.size, 1, none⟩ (.int .i64 rv)).setCell ⟨w1.heap.size, 2, none⟩ (.slice none 0 0)) := ⟨_, Lib.hid rfl⟩
              obtain ⟨g1, g2, g3, g4⟩ := set_three (n := w1.heap.size) hz (Nat.le_refl _) HW9.out
              have K1 := Lib.hid (hO5.trans g2)
              have G1 := Lib.hid g1
              rw [← HW9.out]
              clear hc hf hb hS5 hz hO5
              go_wp2_with fail
              go_meet
              case rel => exact ⟨w1.heap.size, rfl, G1, K1, Nat.le_refl _, by omega⟩
          case rest =>
            obtain ⟨Bx, rfl, h_B', HBC, hB1, hB2⟩ := hcut
            generalize wc = w2 at *
            have h_B := h_B'.out
            clear h_B' a0 a1 a2 a3 y1 y2 y3 y4 y5 n0 n1 n2 n3 m1 m2 m3 m4 m5
            have hs2 := HBC.out.size
            have h_s2 := (HBC.out.block (w.heap.size + 1) ls).trans h_s1
            have hr2 := Lib.hid (((HO.out.row.kept (below_grown hb1.out (Nat.le_refl _)) (Classical.or_iff_not_imp_left.2 fun h => h)).kept (below_grown HBC.out (Nat.le_refl _)) (Classical.or_iff_not_imp_left.2 fun h => h)))
            have hb2 := Lib.hid (hb1.out.trans (HBC.out.mono hs1))
            have c_B0 : w2.cell? ⟨Bx, 0, none⟩ = some (.int .i64 rc) := by rw [Lib.cell_of_heap h_B]; rfl
            have c_B1 : w2.cell? ⟨Bx, 1, none⟩ = some (.int .i64 rv) := by rw [Lib.cell_of_heap h_B]; rfl
            have c_B2 : w2.cell? ⟨Bx, 2, none⟩ = some (.slice none 0 0) := by rw [Lib.cell_of_heap h_B]; rfl
            obtain ⟨v5, w5, hr5, hown, hgr⟩ := oc_append (X := w2.alloc (.cells #[.int .i64 rc, .int .i64 rv, .slice none 0 0] 33)) (g := w2.heap.size) ((hr2.out.kept (below_grown ((Below.refl _ _).alloc (Nat.le_refl _) _) (Nat.le_refl _)) (Classical.or_iff_not_imp_left.2 fun h => h))) (heap_alloc_new w2 _) rfl (by simp; omega) (by omega)
            have HAP5 := Lib.hid hr5
            have hgr5 := Lib.hid hgr
            have hown5 := Lib.hid hown
            have hz5 := hgr.size
            replace hz5 : w2.heap.size + 1 ≤ w5.heap.size := by simpa using hz5
            clear hr5 hgr hown
            clear HDC HAP
            go_wp2_with fail
            refine wp_loop_rounds 1 ?_
            rw [rounds_succ]
            go_wp2_with (refine wpList_append_known _ rfl _ _ 26 26 rfl _ (.slice (some ⟨w2.heap.size, 0, none⟩) 1 1) rfl rfl HAP5.out ?_)
            go_roundw
            case measure => simp [intOf]; omega
            case rel =>
              have hvb : ∀ q', u5.ownBlock = some q' → w.heap.size + 2 ≤ q' := fun q' hq => own_base HO.out.row hq
              have hfr : ∀ q', q' < wr.heap.size → q' ≠ w.heap.size + 1 → u5.ownBlock ≠ some q' → w5.heap[q']? = wr.heap[q']? := fun q' h1 h2 h3 => (hgr5.out.block q' (by simp; omega) (fun e => h3 e.symm)).trans ((((Below.refl w2.heap.size w2).alloc (Nat.le_refl _) _).block q' (by omega)).trans (hb2.out.block q' h1))
              have hgb : Below w.heap.size w2 w5 := ((Below.refl w.heap.size w2).alloc (by omega) _).trans (below_grow hgr5.out (fun q' h1 e => by have := hvb q' e; omega) (by simp; omega))
              subst hs'
              exact ⟨k + 1, by omega, by go_num, rofI_next HI.out HP.out HO.out hu.out ((hbI.trans (hb2.out.mono (by omega))).trans hgb) (by omega) hfr ((hgr5.out.block _ (by simp; omega) (fun e => by have := hvb _ e.symm; omega)).trans ((((Below.refl w2.heap.size w2).alloc (Nat.le_refl _) _).block _ (by omega)).trans h_s2)) hown5.out (.inl ⟨rfl, rfl⟩)⟩
        · obtain ⟨ek, ea⟩ := ev
          go_cut [9] (fun u wx => ∃ (Bx q : Nat), u = .pointer (some ⟨Bx, 0, none⟩) ∧ Hid (wx.heap[Bx]? = some (.cells #[.int .i64 rc, .int .i64 rv, .slice (some ⟨q, 0, none⟩) 1 1] 33 (0, 0))) ∧ Hid (wx.heap[q]? = some (.cells #[.int .i64 ek, .int .i64 ea] 35 (0, 0))) ∧ w1.heap.size ≤ q ∧ q < wx.heap.size ∧ Hid (Below w1.heap.size w1 wx) ∧ w1.heap.size ≤ Bx ∧ Bx < wx.heap.size)
          case first =>
            go_region_held3 (fun X => X.cell? ⟨w.heap.size + 1, 0, none⟩ = some (.int .i64 t) ∧ X.cell? ⟨w.heap.size + 1, 1, none⟩ = some (.bool c) ∧ X.cell? ⟨w.heap.size + 1, 2, none⟩ = some (.int .i64 x) ∧ X.cell? ⟨w.heap.size + 1, 3, none⟩ = some (.int .i64 v) ∧ X.cell? ⟨b1, o1 + k * 6 + 1, none⟩ = some (.int .i64 z1) ∧ X.cell? ⟨b1, o1 + k * 6 + 2, none⟩ = some (.int .i64 z2) ∧ X.cell? ⟨b1, o1 + k * 6 + 3, none⟩ = some (.int .i64 z3) ∧ X.cell? ⟨b1, o1 + k * 6 + 4, none⟩ = some (.int .i64 z4) ∧ X.cell? ⟨b1, o1 + k * 6 + 5, none⟩ = some (.int .i64 z5)) (first | exact hS5 | go_keep | (refine ⟨?_, ?_, ?_, ?_, ?_, ?_, ?_, ?_, ?_⟩ <;> (rw [far_three (by omega)]; first | exact hS5.1 | exact hS5.2.1 | exact hS5.2.2.1 | exact hS5.2.2.2.1 | exact hS5.2.2.2.2.1 | exact hS5.2.2.2.2.2.1 | exact hS5.2.2.2.2.2.2.1 | exact hS5.2.2.2.2.2.2.2.1 | exact hS5.2.2.2.2.2.2.2.2))) ((go_at_call 23; (refine (HDC.out _).mono ?_); rintro e wd ⟨V, rfl, hE, hb⟩; obtain ⟨q, rfl, hq1, hql, h_q⟩ := hE.one; have hq0 := hq1; replace hq1 : w1.heap.size ≤ q := (by first | exact hq1 | exact Nat.le_trans (by simp) hq1); simp only at h_q; have hO5 : Below w1.heap.size w1 wd := (by first | exact (Below.refl _ _).drew.trans hb | exact ((Below.refl _ _).alloc (Nat.le_refl _) _).drew.trans (hb.mono (by simp))); obtain ⟨hc, hf⟩ := bcell hb; have hS5 : wd.cell? ⟨w.heap.size + 1, 0, none⟩ = some (.int .i64 t) ∧ wd.cell? ⟨w.heap.size + 1, 1, none⟩ = some (.bool c) ∧ wd.cell? ⟨w.heap.size + 1, 2, none⟩ = some (.int .i64 x) ∧ wd.cell? ⟨w.heap.size + 1, 3, none⟩ = some (.int .i64 v) ∧ wd.cell? ⟨b1, o1 + k * 6 + 1, none⟩ = some (.int .i64 z1) ∧ wd.cell? ⟨b1, o1 + k * 6 + 2, none⟩ = some (.int .i64 z2) ∧ wd.cell? ⟨b1, o1 + k * 6 + 3, none⟩ = some (.int .i64 z3) ∧ wd.cell? ⟨b1, o1 + k * 6 + 4, none⟩ = some (.int .i64 z4) ∧ wd.cell? ⟨b1, o1 + k * 6 + 5, none⟩ = some (.int .i64 z5) := ⟨(hO5.cell (p := ⟨w.heap.size + 1, 0, none⟩) ls).trans a0, (hO5.cell (p := ⟨w.heap.size + 1, 1, none⟩) ls).trans a1, (hO5.cell (p := ⟨w.heap.size + 1, 2, none⟩) ls).trans a2, (hO5.cell (p := ⟨w.heap.size + 1, 3, none⟩) ls).trans a3, (hO5.cell (p := ⟨b1, o1 + k * 6 + 1, none⟩) lb).trans y1, (hO5.cell (p := ⟨b1, o1 + k * 6 + 2, none⟩) lb).trans y2, (hO5.cell (p := ⟨b1, o1 + k * 6 + 3, none⟩) lb).trans y3, (hO5.cell (p := ⟨b1, o1 + k * 6 + 4, none⟩) lb).trans y4, (hO5.cell (p := ⟨b1, o1 + k * 6 + 5, none⟩) lb).trans y5⟩))
            · have hal : Below wd.heap.size wd (wd.alloc (.cells #[.int .i64 rc, .int .i64 rv, .slice (some ⟨q, 0, none⟩) 1 1] 33)) := (Below.refl _ _).alloc (Nat.le_refl _) _
              have K1 := Lib.hid (hO5.trans (hal.mono hO5.size))
              have hns := hO5.size
              clear hc hf hb hS5 hO5
              go_wp2_with fail
              go_meet
              case rel => exact ⟨wd.heap.size, q, rfl, Lib.hid (heap_alloc_new _ _), Lib.hid ((hal.block q hql).trans h_q), hq1, (by simp; omega), K1, hns, by simp⟩
            · have hz := (hb.block w1.heap.size (by simp)).trans (heap_alloc_new _ _)
              have hlw : w1.heap.size < wd.heap.size := lt_of_block hz
              obtain ⟨W9, HW9⟩ : ∃ W : World, Hid (W = ((wd.setCell ⟨w1.heap.size, 0, none⟩ (.int .i64 rc)).setCell ⟨w1.heap.size, 1, none⟩ (.int .i64 rv)).setCell ⟨w1.heap.size, 2, none⟩ (.slice (some ⟨q, 0, none⟩) 1 1)) := ⟨_, Lib.hid rfl⟩
              obtain ⟨g1, g2, g3, g4⟩ := set_three (n := w1.heap.size) hz (Nat.le_refl _) HW9.out
              have K1 := Lib.hid (hO5.trans g2)
              have G1 := Lib.hid g1
              rw [← HW9.out]
              clear hc hf hb hS5 hz hO5
              go_wp2_with fail
              go_meet
              case rel => exact ⟨w1.heap.size, q, rfl, G1, Lib.hid ((g4 q (by have : w1.heap.size + 1 ≤ q := (by simpa using hq0); omega)).trans h_q), hq1, (by omega), K1, Nat.le_refl _, by omega⟩
          case rest =>
            obtain ⟨Bx, q, rfl, h_B', h_q', hq1, hql, HBC, hB1, hB2⟩ := hcut
            generalize wc = w2 at *
            have h_B := h_B'.out
            clear h_B' a0 a1 a2 a3 y1 y2 y3 y4 y5 n0 n1 n2 n3 m1 m2 m3 m4 m5
            have hs2 := HBC.out.size
            have h_s2 := (HBC.out.block (w.heap.size + 1) ls).trans h_s1
            have hr2 := Lib.hid (((HO.out.row.kept (below_grown hb1.out (Nat.le_refl _)) (Classical.or_iff_not_imp_left.2 fun h => h)).kept (below_grown HBC.out (Nat.le_refl _)) (Classical.or_iff_not_imp_left.2 fun h => h)))
            have hb2 := Lib.hid (hb1.out.trans (HBC.out.mono hs1))
            have c_B0 : w2.cell? ⟨Bx, 0, none⟩ = some (.int .i64 rc) := by rw [Lib.cell_of_heap h_B]; rfl
            have c_B1 : w2.cell? ⟨Bx, 1, none⟩ = some (.int .i64 rv) := by rw [Lib.cell_of_heap h_B]; rfl
            have c_B2 : w2.cell? ⟨Bx, 2, none⟩ = some (.slice (some ⟨q, 0, none⟩) 1 1) := by rw [Lib.cell_of_heap h_B]; rfl
            have h_q := h_q'.out
            have hrow0 : True := trivial
            have ha : app ⟨t, c, x, v⟩ ⟨ek, ea⟩ = s' := (app_yes hlt').trans hs'.symm
            have HP1 := HAP.out
            replace HP1 := Lib.hid (fun X => HP1 X ⟨ek, ea⟩)
            rw [ha] at HP1
            clear h_q' hlt' hs' ha HAP HDC hrow0
            obtain ⟨t', c', x', v'⟩ := s'
            dsimp only [Ev.v] at HP1
            have a0 : w2.cell? ⟨w.heap.size + 1, 0, none⟩ = some (.int .i64 t) := by rw [Lib.cell_of_heap h_s2]; rfl
            have a1 : w2.cell? ⟨w.heap.size + 1, 1, none⟩ = some (.bool c) := by rw [Lib.cell_of_heap h_s2]; rfl
            have a2 : w2.cell? ⟨w.heap.size + 1, 2, none⟩ = some (.int .i64 x) := by rw [Lib.cell_of_heap h_s2]; rfl
            have a3 : w2.cell? ⟨w.heap.size + 1, 3, none⟩ = some (.int .i64 v) := by rw [Lib.cell_of_heap h_s2]; rfl
            have q0 : w2.cell? ⟨q, 0, none⟩ = some (.int .i64 ek) := by rw [Lib.cell_of_heap h_q]; rfl
            have q1 : w2.cell? ⟨q, 1, none⟩ = some (.int .i64 ea) := by rw [Lib.cell_of_heap h_q]; rfl
            have f_s : ∀ i, w2.frozen? ⟨w.heap.size + 1, i, none⟩ = false := fun i => Lib.frozen_of_heap h_s2 i
            go_wp2_with fail
            refine wp_loop_rounds 2 ?_
            rw [rounds_succ]
            go_wp2_with fail
            go_region_with ((go_at_call 24; (refine (HP1.out _).mono ?_); rintro e w3 ⟨rfl, hb⟩; have h_s3 := (hb.block (w.heap.size + 1) (by show w.heap.size + 1 < w2.heap.size; omega)).trans h_s2; have d0 : w3.cell? ⟨w.heap.size + 1, 0, none⟩ = some (.int .i64 t) := (by rw [Lib.cell_of_heap h_s3]; rfl); have d1 : w3.cell? ⟨w.heap.size + 1, 1, none⟩ = some (.bool c) := (by rw [Lib.cell_of_heap h_s3]; rfl); have d2 : w3.cell? ⟨w.heap.size + 1, 2, none⟩ = some (.int .i64 x) := (by rw [Lib.cell_of_heap h_s3]; rfl); have d3 : w3.cell? ⟨w.heap.size + 1, 3, none⟩ = some (.int .i64 v) := (by rw [Lib.cell_of_heap h_s3]; rfl); have df : ∀ i, w3.frozen? ⟨w.heap.size + 1, i, none⟩ = false := (fun i => Lib.frozen_of_heap h_s3 i)))
            all_goals
              have hb3 : Below w2.heap.size w2 w3 := (show Below w2.heap.size w2 w2.drew from (Below.refl _ _).drew).trans hb
              have hs3 : w2.heap.size ≤ w3.heap.size := hb3.size
              clear hb
              obtain ⟨w4, HW4⟩ : ∃ W : World, Hid (W = (((w3.setCell ⟨w.heap.size + 1, 0, none⟩ (.int .i64 t')).setCell ⟨w.heap.size + 1, 1, none⟩ (.bool c')).setCell ⟨w.heap.size + 1, 2, none⟩ (.int .i64 x')).setCell ⟨w.heap.size + 1, 3, none⟩ (.int .i64 v')) := ⟨_, Lib.hid rfl⟩
              obtain ⟨h_s4, hb4, hz4, hoth4⟩ := set_four (n := w.heap.size + 1) h_s3 (Nat.le_refl _) HW4.out
              rw [← HW4.out]
              replace hz4 : w3.heap.size ≤ w4.heap.size := by omega
              clear HW4 d0 d1 d2 d3 df a0 a1 a2 a3 f_s q0 q1 c_B0 c_B1 c_B2
              have h_B4 := (hoth4 Bx (by omega)).trans ((hb3.block Bx hB2).trans h_B)
              have h_q4 := (hoth4 q (by omega)).trans ((hb3.block q hql).trans h_q)
              have hq4 := Lib.hid (fun i (hi : i < wr.heap.size) (hne : i ≠ w.heap.size + 1) => (hoth4 i hne).trans ((hb3.block i (by omega)).trans (hb2.out.block i hi)))
              have hw4 := Lib.hid ((hb2.out.mono (by omega : w.heap.size ≤ wr.heap.size)).trans ((hb3.mono (by omega : w.heap.size ≤ w2.heap.size)).trans (hb4.mono (by omega : w.heap.size ≤ w.heap.size + 1))))
              have hr4 := Lib.hid ((hr2.out.kept (below_grown hb3 (Nat.le_refl _)) (Classical.or_iff_not_imp_left.2 fun h => h)).kept (oc_grown (hb4.mono (by omega)) hoth4) (own_ne hr2.out (by omega)))
              clear hb3 hb4 hoth4
              have c_B0 : w4.cell? ⟨Bx, 0, none⟩ = some (.int .i64 rc) := by rw [Lib.cell_of_heap h_B4]; rfl
              have c_B1 : w4.cell? ⟨Bx, 1, none⟩ = some (.int .i64 rv) := by rw [Lib.cell_of_heap h_B4]; rfl
              have c_B2 : w4.cell? ⟨Bx, 2, none⟩ = some (.slice (some ⟨q, 0, none⟩) 1 1) := by rw [Lib.cell_of_heap h_B4]; rfl
              obtain ⟨v5, w5, hr5, hown, hgr⟩ := oc_append (X := w4.alloc (.cells #[.int .i64 rc, .int .i64 rv, .slice (some ⟨q, 0, none⟩) 1 1] 33)) (g := w4.heap.size) ((hr4.out.kept (below_grown ((Below.refl _ _).alloc (Nat.le_refl _) _) (Nat.le_refl _)) (Classical.or_iff_not_imp_left.2 fun h => h))) (heap_alloc_new w4 _) rfl (by simp; omega) (by omega)
              have HAP5 := Lib.hid hr5
              have hgr5 := Lib.hid hgr
              have hown5 := Lib.hid hown
              have hz5 := hgr.size
              replace hz5 : w4.heap.size + 1 ≤ w5.heap.size := by simpa using hz5
              clear hr5 hgr hown
              go_wp2_with fail
              rw [rounds_succ]
              go_wp2_with (refine wpList_append_known _ rfl _ _ 26 26 rfl _ (.slice (some ⟨w4.heap.size, 0, none⟩) 1 1) rfl rfl HAP5.out ?_)
              go_roundw
              case measure => simp [intOf]; omega
              case rel =>
                have hvb : ∀ q', u5.ownBlock = some q' → w.heap.size + 2 ≤ q' := fun q' hq => own_base HO.out.row hq
                have hfr : ∀ q', q' < wr.heap.size → q' ≠ w.heap.size + 1 → u5.ownBlock ≠ some q' → w5.heap[q']? = wr.heap[q']? := fun q' h1 h2 h3 => (hgr5.out.block q' (by simp; omega) (fun e => h3 e.symm)).trans ((((Below.refl w4.heap.size w4).alloc (Nat.le_refl _) _).block q' (by omega)).trans (hq4.out q' h1 h2))
                have hgb : Below w.heap.size w4 w5 := ((Below.refl w.heap.size w4).alloc (by omega) _).trans (below_grow hgr5.out (fun q' h1 e => by have := hvb q' e; omega) (by simp; omega))
                have h_q5 : w5.heap[q]? = some (.cells #[.int .i64 ek, .int .i64 ea] 35 (0, 0)) := (hgr5.out.block q (by simp; omega) (fun e => own_not_event HO.out.row e.symm (by omega))).trans ((((Below.refl w4.heap.size w4).alloc (Nat.le_refl _) _).block q (by omega)).trans h_q4)
                exact ⟨k + 1, by omega, by go_num, rofI_next HI.out HP.out HO.out hu.out ((hbI.trans hw4.out).trans hgb) (by omega) hfr ((hgr5.out.block _ (by simp; omega) (fun e => by have := hvb _ e.symm; omega)).trans ((((Below.refl w4.heap.size w4).alloc (Nat.le_refl _) _).block _ (by omega)).trans h_s4)) hown5.out (.inr ⟨⟨ek, ea⟩, q, rfl, rfl, by omega, by omega, h_q5⟩)⟩
    · obtain rfl : k = es.length := by omega
      obtain ⟨ps, hps, ho⟩ := hI.own
      have hpl : ps.length = es.length := by have := congrArg List.length hps; rw [upTo_len (Nat.le_refl _)] at this; simpa using this
      have HO := ho.ocs (by omega)
      rw [hps] at HO
      replace HO := Lib.hid HO
      have HBL := Lib.hid hI.bel
      have hrs := hI.res
      have hst := hI.st
      have hsI := hI.size
      have hfo : Hid (foldL es = upTo es es.length) := Lib.hid rfl
      clear hI HCA HTK hps ho
      generalize upTo es es.length = r at *
      obtain ⟨⟨t, c, x, v⟩, os⟩ := r
      dsimp only at hst
      have a0 : wr.cell? ⟨w.heap.size + 1, 0, none⟩ = some (.int .i64 t) := by rw [Lib.cell_of_heap hst]; rfl
      have a1 : wr.cell? ⟨w.heap.size + 1, 1, none⟩ = some (.bool c) := by rw [Lib.cell_of_heap hst]; rfl
      have a2 : wr.cell? ⟨w.heap.size + 1, 2, none⟩ = some (.int .i64 x) := by rw [Lib.cell_of_heap hst]; rfl
      have a3 : wr.cell? ⟨w.heap.size + 1, 3, none⟩ = some (.int .i64 v) := by rw [Lib.cell_of_heap hst]; rfl
      obtain ⟨w2, HST, h_r2, hbel, hsz, hoth⟩ := st_store (n := w.heap.size) t c x v hrs rfl (Nat.le_refl _)
      replace HST := Lib.hid HST
      clear hrs hst
      go_wp2_with (refine wpList_store_known rfl 25 _ _ rfl ⟨w.heap.size, 0, none⟩ _ rfl rfl HST.out ?_)
      (try simp only [Exit.inBlock, Exit.then]); refine bodyPost_ret (results_row_tmp rfl _ _ w.heap.size 25 #[.int .i64 t, .bool c, .int .i64 x, .int .i64 v] (0, 0) _ rfl h_r2 Tryd.underlying25 rfl (by kernel_rfl)) rfl ?_
      rw [hfo.out]
      exact ⟨_, rfl, HO.out.keep (fun q hq _ => hoth q (by omega)) (by omega) (by omega), HBL.out.trans hbel⟩
end Go.Proofs.YtafhjlfnhgkcoaaDoor
