/-
  The walk of the law DiskPlays: it returns true and writes nothing that was there.
-/
import Derived.Test.YtceldekbkffhpaaQAct
import Derived.Test.YtceldekbkffhpaaDGreat
import Derived.Deep.RegionHeld3
namespace Go.Proofs.Ytceldekbkffhpaa.diskPlaysW
open Go.RowKit
theorem acts_slice {w : World} {v : Value} {l : List ActV} (h : Acts w v l) : ∃ A c, v = .slice A l.length c ∧ l.length ≤ 9223372036854775807 := by
  obtain ⟨A, c, hv, h1, h2, _⟩ := h
  unfold maxLen at h2
  exact ⟨A, c, hv, by omega⟩
def actBox (w : World) (b : Nat) (x : ActV) : Prop := w.cell? ⟨b, 0, none⟩ = some (.int .u8 x.k) ∧ w.cell? ⟨b, 1, none⟩ = some (.string x.nm) ∧ w.cell? ⟨b, 2, none⟩ = some (.string x.ot) ∧ w.cell? ⟨b, 3, none⟩ = some (.string x.dt) ∧ w.cell? ⟨b, 4, none⟩ = some (.int .i64 x.n) ∧ w.cell? ⟨b, 5, none⟩ = some (.slice x.ka x.kl x.kc)
theorem box_reads {w : World} {b : Nat} {x : ActV} (h : Reads w (.slice (some ⟨b, 0, none⟩) 6 6) x.val.cells.toList) : actBox w b x := by
  have g := fun i hi y hy => (h.at_ (i := i) (x := y) hi hy)
  refine ⟨?_, ?_, ?_, ?_, ?_, ?_⟩
  · obtain ⟨_, _, e, h⟩ := g 0 (show 0 < 6 by decide) _ rfl; injection e with e; injection e with e1 e2 _; subst e1 e2; exact h
  · obtain ⟨_, _, e, h⟩ := g 1 (show 1 < 6 by decide) _ rfl; injection e with e; injection e with e1 e2 _; subst e1 e2; exact h
  · obtain ⟨_, _, e, h⟩ := g 2 (show 2 < 6 by decide) _ rfl; injection e with e; injection e with e1 e2 _; subst e1 e2; exact h
  · obtain ⟨_, _, e, h⟩ := g 3 (show 3 < 6 by decide) _ rfl; injection e with e; injection e with e1 e2 _; subst e1 e2; exact h
  · obtain ⟨_, _, e, h⟩ := g 4 (show 4 < 6 by decide) _ rfl; injection e with e; injection e with e1 e2 _; subst e1 e2; exact h
  · obtain ⟨_, _, e, h⟩ := g 5 (show 5 < 6 by decide) _ rfl; injection e with e; injection e with e1 e2 _; subst e1 e2; exact h
/-- The cells that a round reads: the box of x, and the act of the list. -/
theorem twelve {w X : World} {P Q : World → (Nat → Prop) → Prop} {vs : List (Value × List Value)} {bx bm o : Nat} {xk xn yk yn : Int} {nm ot dt nm' ot' dt' : ByteArray} {ka ka' : Option Addr} {kl kc kl' kc' : Nat} (h : Both w P Q vs X) (hm : (.slice (some ⟨bx, 0, none⟩) 6 6, (ActV.val ⟨xk, nm, ot, dt, xn, ka, kl, kc⟩).cells.toList) ∈ vs) (hb : bm < w.heap.size) (hc : ActV.cellsAt w bm o ⟨yk, nm', ot', dt', yn, ka', kl', kc'⟩) :
    X.cell? ⟨bx, 0, none⟩ = some (.int .u8 xk) ∧ X.cell? ⟨bx, 1, none⟩ = some (.string nm) ∧ X.cell? ⟨bx, 2, none⟩ = some (.string ot) ∧ X.cell? ⟨bx, 3, none⟩ = some (.string dt) ∧ X.cell? ⟨bx, 4, none⟩ = some (.int .i64 xn) ∧ X.cell? ⟨bx, 5, none⟩ = some (.slice ka kl kc) ∧
    X.cell? ⟨bm, o, none⟩ = some (.int .u8 yk) ∧ X.cell? ⟨bm, o + 1, none⟩ = some (.string nm') ∧ X.cell? ⟨bm, o + 2, none⟩ = some (.string ot') ∧ X.cell? ⟨bm, o + 3, none⟩ = some (.string dt') ∧ X.cell? ⟨bm, o + 4, none⟩ = some (.int .i64 yn) ∧ X.cell? ⟨bm, o + 5, none⟩ = some (.slice ka' kl' kc') := by
  obtain ⟨a0, a1, a2, a3, a4, a5⟩ := box_reads (h.reads hm)
  obtain ⟨c0, c1, c2, c3, c4, c5⟩ := hc.below hb h.bel
  exact ⟨a0, a1, a2, a3, a4, a5, c0, c1, c2, c3, c4, c5⟩
theorem three_ {w X : World} {P Q : World → (Nat → Prop) → Prop} {bx bm o g2 c2 : Nat} {cur : Array Value} {xk xn yk yn : Int} {nm ot dt nm' ot' dt' : ByteArray} {ka' : Option Addr} {kl' kc' : Nat} {kp : List Int} (h : Both w (Plus P g2 (.cells cur 3 (0, 0))) Q [(.slice (some ⟨bx, 0, none⟩) 6 6, (ActV.val ⟨xk, nm, ot, dt, xn, some ⟨g2, 0, none⟩, kp.length, c2⟩).cells.toList)] X) (ht : cur.toList.take (kp.length + 1) = (kp ++ [-70]).map (Value.int .i64)) (hb : bm < w.heap.size) (hc : ActV.cellsAt w bm o ⟨yk, nm', ot', dt', yn, ka', kl', kc'⟩) :
    X.cell? ⟨bx, 5, none⟩ = some (.slice (some ⟨g2, 0, none⟩) kp.length c2) ∧ X.cell? ⟨bm, o + 5, none⟩ = some (.slice ka' kl' kc') ∧ X.cell? ⟨g2, kp.length, none⟩ = some (.int .i64 (-70)) := by
  obtain ⟨a0, a1, a2, a3, a4, a5⟩ := box_reads (h.reads mem0)
  obtain ⟨c0, c1, c2, c3, c4, c5⟩ := hc.below hb h.bel
  have hr := (blk_at h.plus_block.1 ht (j := kp.length) (by omega) (by simp)).1
  exact ⟨a5, c5, by rw [hr]; simp⟩
set_option maxRecDepth 100000 in
set_option maxHeartbeats 4000000 in
theorem walk (m : Int) (v : Value) (l : List ActV) (w : World) (hl : Acts w v l) (hat : ∀ x ∈ l, ActAt w x) :
    Calls Try.prog 3 #[.int .i64 m, v] w fun e w' => e = .returned (.bool true) ∧ Below w.heap.size w w' := by
  obtain ⟨K, hK⟩ := acts_in hat
  have HG := Lib.hid (great_any hl)
  have HA := Lib.hid hl
  have HK := Lib.hid hK
  obtain ⟨A, c, rfl, hll⟩ := acts_slice hl
  clear hl hat hK
  go_enter Try.func3, Try.ntmps3
  go_wp2_with fail
  refine HG.out.mono ?_
  rintro e w1 ⟨b, rfl, hsm, hb1⟩
  have HB1 := Lib.hid hb1
  clear hb1 HG
  cases b
  case true =>
    go_wp2_with fail
    go_ret
    exact ⟨rfl, HB1.out⟩
  case false =>
  have HSM := Lib.hid (hsm rfl)
  have h150 : l.length ≤ 150 := HSM.out.2.2
  clear hsm
  go_wp2_with fail
  refine (new_any _).mono ?_
  rintro e w2 (⟨hn, rfl, rfl⟩ | ⟨hn, rfl, h2, hb2⟩)
  · go_wp2_with fail
    refine (qnew_any _ _).mono ?_
    rintro e w2 (⟨_, rfl, rfl⟩ | ⟨hn', _⟩)
    · go_wp2_with fail
      refine (works_any _).mono ?_
      rintro e w9 ⟨rfl, hb9⟩
      go_wp2_with fail
      go_ret
      exact ⟨rfl, HB1.out.trans (hb9.mono HB1.out.size)⟩
    · exact absurd hn' hn
  · have HB2 := Lib.hid (HB1.out.trans (hb2.mono HB1.out.size))
    go_wp2_with fail
    refine (qnew_any _ _).mono ?_
    rintro e w3 (⟨hn', _⟩ | ⟨_, rfl, h3, hb3⟩)
    · exact absurd hn hn'
    obtain ⟨M, rfl, hM⟩ : ∃ M : Nat, m = (M : Int) ∧ M ≤ 1048576 := ⟨m.toNat, by omega, by omega⟩
    have hB1 : Both w (AtDisk w1.heap.size (Dsk.new M)) AtNone [] w2 := ⟨fp_disk _ _, fp_none, _, fun _ => False, h2, fun k h => h, fun k _ h => h, fun k e => by rw [e]; exact HB1.out.size, fun k h => h.elim, HB2.out, fun p hp => by cases hp⟩
    have hB2 : Both w2 (AtQ w2.heap.size (Dsk.new M)) AtNone [] w3 := ⟨fp_q _ _, fp_none, _, fun _ => False, h3, fun k h => h, fun k _ h => h, fun k e => by rw [e]; exact Nat.le_refl _, fun k h => h.elim, hb3, fun p hp => by cases hp⟩
    have H3 := Lib.hid (Both.joined hB1 hB2)
    have HST : Hid ((Dsk.new M).starts = 0) := rfl
    clear hB1 hB2 h2 h3 hb2 hb3 HB2 HB1 hn
    generalize w1.heap.size = d at *
    generalize w2.heap.size = r at *
    generalize Dsk.new M = D0 at *
    go_wp2_with fail
    go_loopg [4, 9, 10, 11, 12, 13, 14, 15, 16, 17, 18, 19, 20] l.length (fun kx s4 s9 s10 s11 s12 s13 s14 s15 s16 s17 s18 s19 s20 wr => ∃ (i : Nat) (D : Dsk.Dk), i ≤ l.length ∧ s9 = .int .i64 (i : Int) ∧ l.length - i ≤ kx ∧ s4 = .bool false ∧ Hid (Both w (AtDisk d D) (AtQ r D) [] wr) ∧ Hid (D.starts ≤ i))
    case atStart => exact ⟨0, D0, Nat.zero_le _, rfl, by omega, rfl, H3.out, by have := HST.out; show D0.starts ≤ 0; omega⟩
    case round =>
      obtain ⟨i, D, hi, rfl, hkx, rfl, HL, HS⟩ := hrel
      clear H3 HST
      by_cases hlt : i < l.length
      · obtain ⟨bm, om, rfl, hbl, hcells⟩ := HA.out.at_ hlt
        obtain ⟨x0, x1, x2, x3, x4, x5⟩ := hcells.below hbl HL.out.bel
        have HX := Lib.hid (HK.out _ (List.getElem_mem hlt))
        have HLI := Lib.hid (HSM.out.1 _ (List.getElem_mem hlt))
        have hlk : (i : Int) < (l.length : Int) := by omega
        have HI := Lib.hid hcells
        clear hcells
        generalize l[i] = x at *
        generalize K x = kp at *
        have hk0 := HX.out.k0
        have hn1 := HX.out.n1
        have hkl : kp.length = x.kl ∧ x.kl ≤ 100 := by
          obtain ⟨_, _, hv, _⟩ := HX.out.keep
          injection hv with _ e _
          exact ⟨e.symm, HLI.out.2.2.2⟩
        obtain ⟨xk, nm, ot, dt, xn, ka, kl, kc⟩ := x
        simp only at x0 x1 x2 x3 x4 x5 hk0 hn1 hkl
        go_upto_region 13 with fail
        have HB0 : Hid (Below wr.heap.size wr (wr.alloc (.cells #[.int .u8 xk, .string nm, .string ot, .string dt, .int .i64 xn, .slice ka kl kc] 34))) := below_alloc _ _
        have HBX : Hid (Both w (AtDisk d D) (AtQ r D) [(.slice (some ⟨wr.heap.size, 0, none⟩) 6 6, (ActV.val ⟨xk, nm, ot, dt, xn, ka, kl, kc⟩).cells.toList)] (wr.alloc (.cells #[.int .u8 xk, .string nm, .string ot, .string dt, .int .i64 xn, .slice ka kl kc] 34))) :=
          (HL.out.add (below_alloc wr (.cells #[.int .u8 xk, .string nm, .string ot, .string dt, .int .i64 xn, .slice ka kl kc] 34)) (Reads.lit (w := wr) (ActV.val ⟨xk, nm, ot, dt, xn, ka, kl, kc⟩).cells.toList 34) (fun k e => Nat.le_of_eq (Option.some.inj e)))
        have x5' : (wr.alloc (.cells #[.int .u8 xk, .string nm, .string ot, .string dt, .int .i64 xn, .slice ka kl kc] 34)).cell? ⟨bm, om + i * 6 + 5, none⟩ = some (.slice ka kl kc) := (HB0.out.cell (p := ⟨bm, om + i * 6 + 5, none⟩) (Nat.lt_of_lt_of_le hbl HL.out.bel.size)).trans x5
        clear x0 x1 x2 x3 x4 x5
        have HBK := Lib.hid (heap_alloc_new wr (.cells #[.int .u8 xk, .string nm, .string ot, .string dt, .int .i64 xn, .slice ka kl kc] 34))
        have hbw : w.heap.size ≤ wr.heap.size := HL.out.bel.size
        have hbxW := lt_of_block HBK.out
        generalize (wr.alloc (.cells #[.int .u8 xk, .string nm, .string ot, .string dt, .int .i64 xn, .slice ka kl kc] 34)) = W at *
        generalize wr.heap.size = bx at *
        obtain ⟨rfl, hkl⟩ := hkl
        have hmk : ∀ X, (Instr.makeSlice 32 (.int .i64 0) (.int .i64 ((kp.length : Int) + 1))).run Try.prog X = .ok (.slice (some ⟨X.heap.size, 0, none⟩) 0 (kp.length + 1)) (X.alloc (.cells (zs (kp.length + 1)) 3)) := fun X => made_run X (kp.length + 1) (by omega)
        have hwr : IntKind.i64.wrap ((kp.length : Int) + 1) = (kp.length : Int) + 1 := IntWalk.i64_in _ (by omega)
        have hbmW : bm < W.heap.size := Nat.lt_of_lt_of_le hbl HBX.out.bel.size
        have HBV := Lib.hid (fun X (h : Below W.heap.size W X) => And.intro ((cell_of_row X bx 5 _ _ _ ((below_foot h : Foot (fun _ => False) W X).kept HBK.out fun e => e)).trans rfl) (frozen_of_row X bx 5 _ _ ((below_foot h : Foot (fun _ => False) W X).kept HBK.out fun e => e)))
        have SX := Lib.hid (fun X (h : Below W.heap.size W X) => (h.cell (p := ⟨bm, om + i * 6 + 5, none⟩) hbmW).trans x5')
        have SXS := Lib.hid (fun X u (h : Below W.heap.size W X) => (World.cell?_setCell_other X ⟨bx, 5, none⟩ ⟨bm, om + i * 6 + 5, none⟩ u (fun e => by injection e with e _; omega)).trans (SX.out X h))
        have BD : Hid (Below W.heap.size W W.drew) := (Below.refl _ _).drew
        have BM := Lib.hid (BD.out.alloc (Nat.le_refl _) (.cells (zs (kp.length + 1)) 3))
        have BMB := Lib.hid (BM.out.alloc BM.out.size (.cells #[.int .i64 (-70)] 3))
        have BB := Lib.hid (BD.out.alloc (Nat.le_refl _) (.cells #[.int .i64 (-70)] 3))
        have BBM := Lib.hid (BB.out.alloc BB.out.size (.cells (zs (kp.length + 1)) 3))
        have IK := Lib.hid (fun X (h : Below W.heap.size W X) => (HX.out.keep.old (HBX.out.bel.trans (h.mono HBX.out.bel.size)) : Ints X (.slice ka kp.length kc) kp))
        have OM := Lib.hid (made_own W.drew (base := W.heap.size) (g := W.heap.size) (n := kp.length + 1) (by omega) rfl (Nat.le_refl _))
        have OMB := Lib.hid (World.ownsRow.alloc OM.out (.cells #[.int .i64 (-70)] 3))
        have OBM := Lib.hid (made_own (W.drew.alloc (.cells #[.int .i64 (-70)] 3)) (base := W.heap.size) (g := W.heap.size + 1) (n := kp.length + 1) (by omega) (by simp) (by omega))
        have IMB := Lib.hid (ints_70 (W.drew.alloc (.cells (zs (kp.length + 1)) 3)) (g := W.heap.size + 1) (by simp))
        have IB := Lib.hid (ints_70 W.drew (g := W.heap.size) rfl)
        have IBM := Lib.hid (Ints.foot2 IB.out (Foot.new (fun _ => False) _ (.cells (zs (kp.length + 1)) 3)) fun _ _ _ e => e)
        clear x5'
        go_cut [10] (fun s10 wx => s10 = .pointer (some ⟨bx, 0, none⟩) ∧ ∃ (g2 c2 : Nat) (cur : Array Value), Hid (Both w (Plus (AtDisk d D) g2 (.cells cur 3 (0, 0))) (AtQ r D) [(.slice (some ⟨bx, 0, none⟩) 6 6, (ActV.val ⟨xk, nm, ot, dt, xn, some ⟨g2, 0, none⟩, kp.length, c2⟩).cells.toList)] wx) ∧ Hid (cur.size = c2 ∧ cur.toList.take (kp.length + 1) = (kp ++ [-70]).map (Value.int .i64) ∧ kp.length + 1 ≤ c2 ∧ c2 ≤ maxLen))
        case first =>
          as_aux_lemma =>
            go_region_held3 (fun X => X.cell? ⟨bm, om + i * 6 + 5, none⟩ = some (.slice ka kp.length kc))
              (first | exact SX.out _ BD.out | exact SX.out _ BM.out | exact SX.out _ BMB.out | exact SX.out _ BB.out | exact SX.out _ BBM.out | exact SXS.out _ _ HV2.out | exact SX.out _ HV2.out | exact SX.out _ HVB.out | exact SX.out _ HV1.out)
              (first
                | (refine step_ints (base := W.heap.size) (n := 0) (N := kp.length) (xs := []) (l := kp) (v := .slice (some ⟨W.heap.size, 0, none⟩) 0 (kp.length + 1)) (ka := .slice ka kp.length kc) rfl _ _ rfl rfl (by omega) (by simp [Act.eval]) (by simp [Act.eval]) OM.out (IK.out _ BM.out) BM.out.size (by omega) ?_; intro A1 c1 Y hown1 hgr1; have HV1 := Lib.hid (grown_bel BM.out hgr1 (fun j e => by cases e; exact Nat.le_refl _)); have HVB := Lib.hid (HV1.out.alloc HV1.out.size (.cells #[.int .i64 (-70)] 3)))
                | (refine step_ints (base := W.heap.size) (n := 0) (N := kp.length) (xs := []) (l := kp) (v := .slice (some ⟨W.heap.size, 0, none⟩) 0 (kp.length + 1)) (ka := .slice ka kp.length kc) rfl _ _ rfl rfl (by omega) (by simp [Act.eval]) (by simp [Act.eval]) OMB.out (IK.out _ BMB.out) BMB.out.size (by omega) ?_; intro A1 c1 Y hown1 hgr1; have HV1 := Lib.hid (grown_bel BMB.out hgr1 (fun j e => by cases e; exact Nat.le_refl _)); have HI7 := Lib.hid (Ints.foot2 IMB.out (Foot.grown hgr1) fun k _ e e' => by have h1 : W.heap.size + 1 = k := Option.some.inj e; have h2 : W.heap.size = k := Option.some.inj e'; omega))
                | (refine step_ints (base := W.heap.size) (n := 0) (N := kp.length) (xs := []) (l := kp) (v := .slice (some ⟨W.heap.size + 1, 0, none⟩) 0 (kp.length + 1)) (ka := .slice ka kp.length kc) rfl _ _ rfl rfl (by omega) (by simp [Act.eval]) (by simp [Act.eval]) OBM.out (IK.out _ BBM.out) BBM.out.size (by omega) ?_; intro A1 c1 Y hown1 hgr1; have HV1 := Lib.hid (grown_bel BBM.out hgr1 (fun j e => by have h1 : W.heap.size + 1 = j := Option.some.inj e; omega)); have HI7 := Lib.hid (Ints.foot2 IBM.out (Foot.grown hgr1) fun k _ e e' => by have h1 : W.heap.size = k := Option.some.inj e; have h2 : W.heap.size + 1 = k := Option.some.inj e'; omega))
                | (refine step_ints (base := W.heap.size) (n := kp.length) (N := kp.length + 1) (l := [-70]) (v := .slice A1 kp.length c1) (ka := .slice (some ⟨Y.heap.size, 0, none⟩) 1 1) rfl _ _ rfl rfl rfl (by simp [Act.eval]) (by simp [Act.eval]) (World.ownsRow.alloc hown1 _) (ints_70 Y rfl) HVB.out.size (by omega) ?_; intro A2 c2 V hown2 hgr2; have HV2 := Lib.hid (grown_bel HVB.out hgr2 (fun j e => (World.ownsRow.lt hown1 j e).1)); obtain ⟨y5, z5⟩ := HBV.out V HV2.out; obtain ⟨g2, rfl, hg2, hgl2, hnc2, hcm2⟩ := own_shape1 hown2 (by omega); have hi2 : (kp.length : Int) ≤ (c2 : Int) := by omega)
                | (refine step_ints (base := W.heap.size) (n := kp.length) (N := kp.length + 1) (l := [-70]) (v := .slice A1 kp.length c1) (ka := .slice (some ⟨W.heap.size, 0, none⟩) 1 1) rfl _ _ rfl rfl rfl (by simp [Act.eval]) (by simp [Act.eval]) hown1 HI7.out HV1.out.size (by omega) ?_; intro A2 c2 V hown2 hgr2; have HV2 := Lib.hid (grown_bel HV1.out hgr2 (fun j e => (World.ownsRow.lt hown1 j e).1)); obtain ⟨y5, z5⟩ := HBV.out V HV2.out; obtain ⟨g2, rfl, hg2, hgl2, hnc2, hcm2⟩ := own_shape1 hown2 (by omega); have hi2 : (kp.length : Int) ≤ (c2 : Int) := by omega)
                | (refine step_ints (base := W.heap.size) (n := kp.length) (N := kp.length + 1) (l := [-70]) (v := .slice A1 kp.length c1) (ka := .slice (some ⟨W.heap.size + 1, 0, none⟩) 1 1) rfl _ _ rfl rfl rfl (by simp [Act.eval]) (by simp [Act.eval]) hown1 HI7.out HV1.out.size (by omega) ?_; intro A2 c2 V hown2 hgr2; have HV2 := Lib.hid (grown_bel HV1.out hgr2 (fun j e => (World.ownsRow.lt hown1 j e).1)); obtain ⟨y5, z5⟩ := HBV.out V HV2.out; obtain ⟨g2, rfl, hg2, hgl2, hnc2, hcm2⟩ := own_shape1 hown2 (by omega); have hi2 : (kp.length : Int) ≤ (c2 : Int) := by omega))
            all_goals
              go_wp2_with fail
              go_meet
              case rel =>
                obtain ⟨cur, q1, q2, q3⟩ := row_laid HBX.out hbw HV2.out hown2 hg2
                exact ⟨rfl, g2, c2, cur, q3, q1, q2, hnc2, hcm2⟩
        case rest =>
          obtain ⟨rfl, g2, c2, cur, H13, HG2⟩ := hcut
          clear hmk hwr SX SXS BD BM BMB BB BBM IK OM OMB OBM IMB IB IBM HBX HBK HBV HB0
          have hst : D.starts ≤ 150 := by have := HS.out; omega
          obtain ⟨⟨D', ra⟩, HRA⟩ : ∃ R, Hid (Dsk.act D ⟨xk, nm, ot, dt, xn, ka, kp.length, kc⟩ kp = R) := ⟨_, rfl⟩
          have HST' : Hid (D'.starts ≤ i + 1) := by
            have h1 := (Dsk.mild_act D ⟨xk, nm, ot, dt, xn, ka, kp.length, kc⟩ kp).2.1
            rw [HRA.out] at h1
            have h2 := HS.out
            show D'.starts ≤ i + 1
            simp only at h1
            omega
          have hli : bm < w.heap.size := hbl
          have TW := Lib.hid (fun (X : World) (P Q : World → (Nat → Prop) → Prop) (h : Hid (Both w P Q [(.slice (some ⟨bx, 0, none⟩) 6 6, (ActV.val ⟨xk, nm, ot, dt, xn, some ⟨g2, 0, none⟩, kp.length, c2⟩).cells.toList)] X)) => twelve h.out mem0 hli HI.out)
          have HD1 : Hid (∀ X, Still wc X → Calls Try.prog 8 #[.pointer (some ⟨d, 0, none⟩), .agg #[.int .u8 xk, .string nm, .string ot, .string dt, .int .i64 xn, .slice (some ⟨g2, 0, none⟩) kp.length c2]] X fun e w' => e = .returned (.int .i64 ra) ∧ Hid (Both w (Plus (AtDisk d D') g2 (.cells cur 3 (0, 0))) (AtQ r D) [(.slice (some ⟨bx, 0, none⟩) 6 6, (ActV.val ⟨xk, nm, ot, dt, xn, some ⟨g2, 0, none⟩, kp.length, c2⟩).cells.toList)] w')) := fun X hX =>
            both_does_plus ⟨xk, nm, ot, dt, xn, some ⟨g2, 0, none⟩, kp.length, c2⟩ kp (Lib.hid (H13.out.still hX)) hk0 hn1 (ints_blk (H13.out.still hX).plus_block.1 HG2.out.2.1 (show kp.length ≤ c2 by have := HG2.out.2.2.1; omega) HG2.out.2.2.2) rfl (by omega) HRA.out
          have HD2 : Hid (∀ X, Hid (Both w (Plus (AtDisk d D') g2 (.cells cur 3 (0, 0))) (AtQ r D) [(.slice (some ⟨bx, 0, none⟩) 6 6, (ActV.val ⟨xk, nm, ot, dt, xn, some ⟨g2, 0, none⟩, kp.length, c2⟩).cells.toList)] X) → Calls Try.prog 9 #[.pointer (some ⟨r, 0, none⟩), .agg #[.int .u8 xk, .string nm, .string ot, .string dt, .int .i64 xn, .slice ka kp.length kc]] X fun e w' => e = .returned (.int .i64 ra) ∧ Hid (Both w (AtQ r D') (Plus (AtDisk d D') g2 (.cells cur 3 (0, 0))) [(.slice (some ⟨bx, 0, none⟩) 6 6, (ActV.val ⟨xk, nm, ot, dt, xn, some ⟨g2, 0, none⟩, kp.length, c2⟩).cells.toList)] w')) := fun X hX =>
            bothq_did ⟨xk, nm, ot, dt, xn, ka, kp.length, kc⟩ kp (Lib.hid hX.out.swap) HX.out (by omega) (by omega) HRA.out
          go_upto_region 14 with fail
          go_cut [11, 12] (fun s11 s12 wx => s11 = .int .i64 ra ∧ s12 = .int .i64 ra ∧ Hid (Both w (Plus (AtDisk d D') g2 (.cells cur 3 (0, 0))) (AtQ r D') [(.slice (some ⟨bx, 0, none⟩) 6 6, (ActV.val ⟨xk, nm, ot, dt, xn, some ⟨g2, 0, none⟩, kp.length, c2⟩).cells.toList)] wx))
          case first =>
            as_aux_lemma =>
              have HST1 := Lib.hid (show Still wc wc.drew from (Still.refl wc).drewN 1)
              have HH0 := Lib.hid (H13.out.still HST1.out)
              go_region_held3 (fun X => X.cell? ⟨bx, 0, none⟩ = some (.int .u8 xk) ∧ X.cell? ⟨bx, 1, none⟩ = some (.string nm) ∧ X.cell? ⟨bx, 2, none⟩ = some (.string ot) ∧ X.cell? ⟨bx, 3, none⟩ = some (.string dt) ∧ X.cell? ⟨bx, 4, none⟩ = some (.int .i64 xn) ∧ X.cell? ⟨bx, 5, none⟩ = some (.slice (some ⟨g2, 0, none⟩) kp.length c2) ∧
                  X.cell? ⟨bm, om + i * 6, none⟩ = some (.int .u8 xk) ∧ X.cell? ⟨bm, om + i * 6 + 1, none⟩ = some (.string nm) ∧ X.cell? ⟨bm, om + i * 6 + 2, none⟩ = some (.string ot) ∧ X.cell? ⟨bm, om + i * 6 + 3, none⟩ = some (.string dt) ∧ X.cell? ⟨bm, om + i * 6 + 4, none⟩ = some (.int .i64 xn) ∧ X.cell? ⟨bm, om + i * 6 + 5, none⟩ = some (.slice ka kp.length kc))
                (first | exact TW.out _ _ _ HH0 | exact TW.out _ _ _ HN1 | exact TW.out _ _ _ HN2)
                (first
                  | ((go_at_call 8; ((with_reducible refine (HD1.out _ HST1.out).mono ?_); rintro e w' ⟨rfl, HN1⟩)))
                  | ((go_at_call 9; ((with_reducible refine (HD2.out _ (by assumption)).mono ?_); rintro e w'' ⟨rfl, HN2⟩))))
              all_goals
                go_wp2_with fail
                go_meet
                case rel => exact ⟨rfl, rfl, Lib.hid HN2.out.swap⟩
          case rest =>
            obtain ⟨rfl, rfl, H14⟩ := hcut
            clear H13 HD1 HD2
            have TH := Lib.hid (fun (X : World) (h : Hid (Both w (Plus (AtDisk d D') g2 (.cells cur 3 (0, 0))) (AtQ r D') [(.slice (some ⟨bx, 0, none⟩) 6 6, (ActV.val ⟨xk, nm, ot, dt, xn, some ⟨g2, 0, none⟩, kp.length, c2⟩).cells.toList)] X)) => three_ h.out HG2.out.2.1 hli HI.out)
            have SI : Hid (∀ X, Still wc X → Calls Try.prog 10 #[.slice (some ⟨g2, 0, none⟩) kp.length c2, .slice ka kp.length kc] X fun e w' => e = .returned (.bool true) ∧ Hid (Both w (Plus (AtDisk d D') g2 (.cells cur 3 (0, 0))) (AtQ r D') [(.slice (some ⟨bx, 0, none⟩) 6 6, (ActV.val ⟨xk, nm, ot, dt, xn, some ⟨g2, 0, none⟩, kp.length, c2⟩).cells.toList)] w')) := fun X hX =>
              (sameInts_any _ _ kp X (ints_reads (ints_blk (H14.out.still hX).plus_block.1 HG2.out.2.1 (show kp.length ≤ c2 by have := HG2.out.2.2.1; omega) HG2.out.2.2.2)) (ints_reads (HX.out.keep.old (H14.out.still hX).bel)) (by omega)).mono fun e w' h => And.intro h.1 (Lib.hid ((H14.out.still hX).below h.2))
            have HST2 := Lib.hid (show Still wc wc.drew from (Still.refl wc).drewN 1)
            have HH2 := Lib.hid (H14.out.still HST2.out)
            have hi70 : (kp.length : Int) + 1 ≤ (c2 : Int) := by have := HG2.out.2.2.1; omega
            have hw70 : IntKind.i64.wrap ((kp.length : Int) + 1) = (kp.length : Int) + 1 := IntWalk.i64_in _ (by omega)
            have hp70 : (0 : Int) ≤ (kp.length : Int) + 1 := by omega
            have hl70 : (kp.length : Int) < (kp.length : Int) + 1 := by omega
            have hr0 : (ra == ra) = true := beq_self_eq_true ra
            go_upto_region 15 with fail
            go_region_held3 (fun X => X.cell? ⟨bx, 5, none⟩ = some (.slice (some ⟨g2, 0, none⟩) kp.length c2) ∧ X.cell? ⟨bm, om + i * 6 + 5, none⟩ = some (.slice ka kp.length kc) ∧ X.cell? ⟨g2, kp.length, none⟩ = some (.int .i64 (-70)))
              (first | exact TH.out _ HH2 | exact TH.out _ HN3)
              (first
                | ((go_at_call 10; ((with_reducible refine (SI.out _ HST2.out).mono ?_); rintro e w' ⟨rfl, HN3⟩))))
            have H15 := HN3
            clear HN3 SI HST2 HH2 TH TW H14 hr0 hw70 hi70 hp70 hl70
            go_wp2_with fail
            go_loopg [13] kp.length (fun kx s13 wr => ∃ k : Nat, k ≤ kp.length ∧ s13 = .int .i64 (k : Int) ∧ kp.length - k ≤ kx ∧ Hid (∃ cur' : Array Value, cur'.size = c2 ∧ Both w (Plus (AtDisk d D') g2 (.cells cur' 3 (0, 0))) (AtQ r D') [(.slice (some ⟨bx, 0, none⟩) 6 6, (ActV.val ⟨xk, nm, ot, dt, xn, some ⟨g2, 0, none⟩, kp.length, c2⟩).cells.toList)] wr))
            case atStart => exact ⟨0, Nat.zero_le _, rfl, by omega, cur, HG2.out.1, H15.out⟩
            case round =>
              obtain ⟨k, hk, rfl, hkk, HC⟩ := hrel
              clear H15
              obtain ⟨cur', hcs, hB⟩ := HC.out
              have hB0 := hB.reads mem0
              obtain ⟨y0, y1, y2, y3, y4, y5⟩ := box_reads hB0
              simp only at y0 y1 y2 y3 y4 y5
              clear y0 y2 y3 y4 HC hB0
              by_cases hlt2 : k < kp.length
              · have hks : k < cur'.size := by have := HG2.out.2.2.1; omega
                have hblk := hB.plus_block.1
                have z1 : wr.cell? ⟨g2, k, none⟩ = some cur'[k] := by rw [cell_of_row wr g2 k _ _ _ hblk]; simp [hks]
                have z2 := frozen_of_row wr g2 k _ _ hblk
                have hlk2 : (k : Int) < (kp.length : Int) := by omega
                have HN := Lib.hid (hB.plus_write (i := k) (u := .int .i64 7) (fp_disk _ _))
                have HCS : Hid ((cur'.setIfInBounds k (.int .i64 7)).size = c2) := by unfold Hid; simp; exact hcs
                clear hB hblk
                generalize cur'[k] = u at *
                go_wp2_with fail
                go_roundg (kp.length - (k + 1))
                case measure => omega
                case rel => exact ⟨k + 1, by omega, by go_num, by omega, _, HCS.out, HN.out⟩
              · obtain rfl : k = kp.length := by omega
                have hlk2 : ¬ ((kp.length : Int) < (kp.length : Int)) := by omega
                have H16 := Lib.hid (hB.unplus (fp_disk _ _))
                clear hB
                obtain ⟨⟨rl, rr⟩, HRD⟩ : ∃ R, Hid (Dsk.read D' nm = R) := ⟨_, rfl⟩
                have hr1 := both_read nm H16
                rw [HRD.out] at hr1
                have HR1 := Lib.hid hr1
                clear hr1
                go_wp2_with fail
                refine HR1.out.mono ?_
                rintro e w17 ⟨rfl, H17⟩
                have hr2 := bothq_read nm (Lib.hid H17.out.swap)
                rw [HRD.out] at hr2
                have HR2 := Lib.hid hr2
                obtain ⟨y0, y1, y2, y3, y4, y5⟩ := box_reads (H17.out.reads mem0)
                simp only at y1
                clear hr2 HR1 y0 y2 y3 y4 y5
                go_wp2_with fail
                refine HR2.out.mono ?_
                rintro e w18 ⟨rfl, H18⟩
                have H19 := Lib.hid H18.out.swap
                clear HR2 H16 H17 H18
                go_wp2_with fail
                refine (own_names H19.out).mono ?_
                rintro e w20 ⟨An, cn, rfl, HON, HBN⟩
                have H20 := Lib.hid (H19.out.below HBN.out)
                go_wp2_with fail
                refine (own_unsync H20.out).mono ?_
                rintro e w21 ⟨Au, cu, rfl, HOU, HBU⟩
                have HBZ := Lib.hid (HBN.out.trans (HBU.out.mono HBN.out.size))
                have HONZ := Lib.hid (owns_foot HON.out (below_foot HBU.out : Foot (fun _ => False) w20 w21) fun _ _ e => e)
                have HFAR : Hid (∀ k, (Value.slice An D'.fs.length cn).ownBlock = some k → (Value.slice Au D'.fs.length cu).ownBlock ≠ some k) := fun k h1 h2 => by
                  have := (World.ownsRow.lt HON.out k h1).2
                  have := (World.ownsRow.lt HOU.out k h2).1
                  omega
                have HOUZ := Lib.hid (own_base HOU.out (base' := w18.heap.size) fun k hk => Nat.le_trans HBN.out.size (World.ownsRow.lt HOU.out k hk).1)
                clear H20 HON HOU HBN HBU
                have H21 := Lib.hid (H19.out.below HBZ.out)
                have hfew := H21.out.good.few
                have HNL : Hid ((Dsk.names D'.fs).length = D'.fs.length) := by unfold Hid; simp [Dsk.names]
                have HUL : Hid ((Dsk.unsynced D'.fs).length = D'.fs.length) := by unfold Hid; simp [Dsk.unsynced]
                have CC := Lib.hid (fun (X : World) (hX : Hid (Below w21.heap.size w21 X)) => bothq_cells (H21.out.below hX.out).swap)
                have HB0 : Hid (Below w21.heap.size w21 w21.drew) := (Below.refl _ _).drew
                have A1 : Hid (∀ X, Hid (Below w21.heap.size w21 X) → Calls Try.prog 16 #[.pointer (some ⟨r, 0, none⟩)] X fun e w' => ∃ A c, e = .returned (.slice A D'.fs.length c) ∧ Hid (Reads w' (.slice A D'.fs.length c) ((Dsk.names D'.fs).map Value.string)) ∧ Hid (Below w21.heap.size w21 w')) := fun X hX =>
                  (own_qnames (H21.out.below hX.out)).mono fun e w' ⟨A, c, h1, h2, h3⟩ => ⟨A, c, h1, own_reads h2.out, hX.out.trans (h3.out.mono hX.out.size)⟩
                have A2 : Hid (∀ X A c, Hid (Reads X (.slice A D'.fs.length c) ((Dsk.names D'.fs).map Value.string)) → Hid (Below w21.heap.size w21 X) → Calls Try.prog 15 #[.slice An D'.fs.length cn, .slice A D'.fs.length c] X fun e w' => e = .returned (.bool true) ∧ Hid (Below w21.heap.size w21 w')) := fun X A c hr hX =>
                  (sameTexts_any _ _ (Dsk.names D'.fs) X ((own_reads HONZ.out).below hX.out) hr.out (by rw [HNL.out]; omega)).mono fun e w' h => ⟨h.1, hX.out.trans (h.2.mono hX.out.size)⟩
                have A3 : Hid (∀ X, Hid (Below w21.heap.size w21 X) → Calls Try.prog 17 #[.pointer (some ⟨r, 0, none⟩)] X fun e w' => ∃ A c, e = .returned (.slice A D'.fs.length c) ∧ Hid (Reads w' (.slice A D'.fs.length c) ((Dsk.unsynced D'.fs).map (Value.int .i64))) ∧ Hid (Below w21.heap.size w21 w')) := fun X hX =>
                  (own_qunsync (H21.out.below hX.out)).mono fun e w' ⟨A, c, h1, h2, h3⟩ => ⟨A, c, h1, own_reads h2.out, hX.out.trans (h3.out.mono hX.out.size)⟩
                have A4 : Hid (∀ X A c, Hid (Reads X (.slice A D'.fs.length c) ((Dsk.unsynced D'.fs).map (Value.int .i64))) → Hid (Below w21.heap.size w21 X) → Calls Try.prog 10 #[.slice Au D'.fs.length cu, .slice A D'.fs.length c] X fun e w' => e = .returned (.bool true) ∧ Hid (Below w21.heap.size w21 w')) := fun X A c hr hX =>
                  (sameInts_any _ _ (Dsk.unsynced D'.fs) X ((own_reads HOUZ.out).below hX.out) hr.out (by rw [HUL.out]; omega)).mono fun e w' h => ⟨h.1, hX.out.trans (h.2.mono hX.out.size)⟩
                have A5 : Hid (∀ X, Hid (Below w21.heap.size w21 X) → Calls Try.prog 18 #[.pointer (some ⟨d, 0, none⟩)] X fun e w' => e = .returned (.int .i64 (Dsk.total D'.fs : Int)) ∧ Hid (Below w21.heap.size w21 w')) := fun X hX => by
                  obtain ⟨_, _, S, T, h1, _⟩ := H21.out.below hX.out
                  exact (size_any h1).mono fun e w' h => ⟨h.1, hX.out.trans (h.2.mono hX.out.size)⟩
                have A6 := Lib.hid (fun (X : World) (hX : Hid (Below w21.heap.size w21 X)) => bothq_size (Lib.hid (H21.out.below hX.out).swap))
                have A7 := Lib.hid (fun (X : World) (hX : Hid (Below w21.heap.size w21 X)) => both_up (Lib.hid (H21.out.below hX.out)) rfl)
                have A8 := Lib.hid (fun (X : World) (hX : Hid (Below w21.heap.size w21 X)) => both_starts (Lib.hid (H21.out.below hX.out)))
                have hrr : (rr == rr) = true := beq_self_eq_true rr
                generalize hdnx : D'.down = dn at *
                clear H21 y1
                go_upto_region 24 with fail
                go_region_held3 (fun X => X.cell? ⟨r, 1, none⟩ = some (.int .i64 (D'.starts : Int)) ∧ X.cell? ⟨r, 2, none⟩ = some (.bool dn))
                  (first | exact CC.out _ HB0 | exact CC.out _ HB1 | exact CC.out _ HB2 | exact CC.out _ HB3 | exact CC.out _ HB4 | exact CC.out _ HB5)
                  (first
                    | ((go_at_call 16; ((with_reducible refine (A1.out _ HB0).mono ?_); rintro e w' ⟨Aq, cq, rfl, HRq, HB1⟩)))
                    | ((go_at_call 15; ((with_reducible refine (A2.out _ _ _ HRq HB1).mono ?_); rintro e w' ⟨rfl, HB2⟩)))
                    | ((go_at_call 17; ((with_reducible refine (A3.out _ HB2).mono ?_); rintro e w' ⟨Av, cv, rfl, HRv, HB3⟩)))
                    | ((go_at_call 10; ((with_reducible refine (A4.out _ _ _ HRv HB3).mono ?_); rintro e w' ⟨rfl, HB4⟩)))
                    | ((go_at_call 18; ((with_reducible refine (A5.out _ HB4).mono ?_); rintro e w' ⟨rfl, HB5⟩)))
                    | ((go_at_call 19; ((with_reducible refine (A6.out _ HB5).mono ?_); rintro e w' ⟨rfl, rfl⟩)))
                    | ((go_at_call 20; ((with_reducible refine (A7.out _ HB5).mono ?_); rintro e w' ⟨rfl, rfl⟩)))
                    | ((go_at_call 21; ((with_reducible refine (A8.out _ HB5).mono ?_); rintro e w' ⟨rfl, rfl⟩))))
                have HV := Lib.hid (HBZ.out.trans (HB5.out.mono HBZ.out.size))
                have HONV := Lib.hid (owns_foot HONZ.out (below_foot HB5.out : Foot (fun _ => False) w21 w') fun _ _ e => e)
                have HOUV := Lib.hid (owns_foot HOUZ.out (below_foot HB5.out : Foot (fun _ => False) w21 w') fun _ _ e => e)
                clear CC A1 A2 A3 A4 A5 A6 A7 A8 HB0 HB1 HB2 HB3 HB4 HRq HRv HBZ HONZ HOUZ hrr HNL HUL
                go_wp2_with fail
                go_loopg [20] D'.fs.length (fun kx s20 wr => ∃ j : Nat, j ≤ D'.fs.length ∧ s20 = .int .i64 (j : Int) ∧ D'.fs.length - j ≤ kx ∧ Hid (Below w18.heap.size w18 wr) ∧ Hid (∃ xs, wr.ownsRow w18.heap.size 9 1 (.slice An D'.fs.length cn) D'.fs.length xs) ∧ Hid (∃ ys, wr.ownsRow w18.heap.size 3 1 (.slice Au D'.fs.length cu) D'.fs.length ys))
                case atStart => exact ⟨0, Nat.zero_le _, rfl, by omega, HV.out, ⟨_, HONV.out⟩, ⟨_, HOUV.out⟩⟩
                case round =>
                  obtain ⟨j, hj, rfl, hkj, HW, HXS, HYS⟩ := hrel
                  clear HV HONV HOUV HB5
                  by_cases hlt3 : j < D'.fs.length
                  · obtain ⟨xs, hxs⟩ := HXS.out
                    obtain ⟨ys, hys⟩ := HYS.out
                    obtain ⟨gn, rfl, hgn, hgnl, _, _⟩ := own_shape1 hxs (by omega)
                    obtain ⟨gu, rfl, hgu, hgul, _, _⟩ := own_shape1 hys (by omega)
                    have hne : gu ≠ gn := fun e => HFAR.out gn rfl (by rw [e]; rfl)
                    obtain ⟨⟨u1, z1⟩, f1⟩ := own_cell hxs hlt3
                    obtain ⟨⟨u2, z2⟩, f2⟩ := own_cell hys hlt3
                    have hf1 : Foot (fun k => k = gn) wr (wr.setCell ⟨gn, j, none⟩ (.string ⟨#[63]⟩)) := Foot.set (fun k => k = gn) wr _ _ rfl
                    have hys1 := owns_foot hys hf1 fun k hk e => by
                      have h1 : gu = k := Option.some.inj hk
                      exact hne (h1.trans e)
                    obtain ⟨⟨u3, z3⟩, f3⟩ := own_cell hys1 hlt3
                    have hf2 : Foot (fun k => k = gu) (wr.setCell ⟨gn, j, none⟩ (.string ⟨#[63]⟩)) ((wr.setCell ⟨gn, j, none⟩ (.string ⟨#[63]⟩)).setCell ⟨gu, j, none⟩ (.int .i64 (-9))) := Foot.set (fun k => k = gu) _ _ _ rfl
                    have HX2 : Hid (∃ xs, ((wr.setCell ⟨gn, j, none⟩ (.string ⟨#[63]⟩)).setCell ⟨gu, j, none⟩ (.int .i64 (-9))).ownsRow w18.heap.size 9 1 (.slice (some ⟨gn, 0, none⟩) D'.fs.length cn) D'.fs.length xs) := ⟨_, owns_foot (World.ownsRow.stored hxs j (.string ⟨#[63]⟩)).1 hf2 fun k hk e => by
                      have h1 : gn = k := Option.some.inj hk
                      exact hne (h1.trans e).symm⟩
                    have HY2 : Hid (∃ ys, ((wr.setCell ⟨gn, j, none⟩ (.string ⟨#[63]⟩)).setCell ⟨gu, j, none⟩ (.int .i64 (-9))).ownsRow w18.heap.size 3 1 (.slice (some ⟨gu, 0, none⟩) D'.fs.length cu) D'.fs.length ys) := ⟨_, (World.ownsRow.stored hys1 j (.int .i64 (-9))).1⟩
                    have HW2 : Hid (Below w18.heap.size w18 ((wr.setCell ⟨gn, j, none⟩ (.string ⟨#[63]⟩)).setCell ⟨gu, j, none⟩ (.int .i64 (-9)))) := (HW.out.setCell (p := ⟨gn, j, none⟩) hgn _).setCell (p := ⟨gu, j, none⟩) hgu _
                    have hlk3 : (j : Int) < (D'.fs.length : Int) := by omega
                    clear hxs hys hf1 hf2 hys1 HXS HYS HW HFAR
                    go_wp2_with fail
                    go_roundg (D'.fs.length - (j + 1))
                    case measure => omega
                    case rel => exact ⟨j + 1, by omega, by go_num, by omega, HW2.out, HX2.out, HY2.out⟩
                  · obtain rfl : j = D'.fs.length := by omega
                    have hlk3 : ¬ ((D'.fs.length : Int) < (D'.fs.length : Int)) := by omega
                    have H31 := Lib.hid (H19.out.below HW.out)
                    have hnl : (Dsk.names D'.fs).length = D'.fs.length := by simp [Dsk.names]
                    have hul : (Dsk.unsynced D'.fs).length = D'.fs.length := by simp [Dsk.unsynced]
                    have HNL2 : Hid ((Dsk.names D'.fs).length ≤ 1000000) := by unfold Hid; omega
                    have HUL2 : Hid ((Dsk.unsynced D'.fs).length ≤ 1000000) := by unfold Hid; omega
                    clear hnl hul H19 HW HXS HYS HFAR
                    go_wp2_with fail
                    refine (both_names H31).mono ?_
                    rintro e w31 ⟨B1, b1, rfl, H32⟩
                    go_wp2_with fail
                    refine (bothq_names (Lib.hid H32.out.swap)).mono ?_
                    rintro e w32 ⟨B2, b2, rfl, H33⟩
                    go_wp2_with fail
                    refine (sameTexts_any _ _ (Dsk.names D'.fs) w32 (H33.out.reads mem1) (H33.out.reads mem0) HNL2.out).mono ?_
                    rintro e w33 ⟨rfl, hb33⟩
                    have H34 := Lib.hid (H33.out.below hb33)
                    clear H31 H32 H33 hb33
                    go_wp2_with fail
                    refine (both_unsync (Lib.hid H34.out.swap)).mono ?_
                    rintro e w35 ⟨B3, b3, rfl, H35⟩
                    go_wp2_with fail
                    refine (bothq_unsync (Lib.hid H35.out.swap)).mono ?_
                    rintro e w36 ⟨B4, b4, rfl, H36⟩
                    go_wp2_with fail
                    refine (sameInts_any _ _ (Dsk.unsynced D'.fs) w36 (H36.out.reads mem1) (H36.out.reads mem0) HUL2.out).mono ?_
                    rintro e w37 ⟨rfl, hb37⟩
                    have H37 := Lib.hid (H36.out.below hb37)
                    clear H34 H35 H36 hb37
                    go_wp2_with fail
                    go_roundg (l.length - (i + 1))
                    case measure => omega
                    case rel => exact ⟨i + 1, D', by omega, by go_num, by omega, rfl, H37.out.swap.fewer (fun p hp => by cases hp), HST'.out⟩
      · obtain rfl : i = l.length := by omega
        have hlk : ¬ ((l.length : Int) < (l.length : Int)) := by omega
        have hbl := HL.out.bel
        clear HL
        go_wp2_with fail
        refine (works_any _).mono ?_
        rintro e w9 ⟨rfl, hb9⟩
        go_wp2_with fail
        go_ret
        exact ⟨rfl, hbl.trans (hb9.mono hbl.size)⟩
end Go.Proofs.Ytceldekbkffhpaa.diskPlaysW
