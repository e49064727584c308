/-
  The walk of the law DeedsStay: it returns true and writes nothing that was there.
-/
import Derived.Test.YtpboleiifmepeaaDoorAeTail
import Derived.Test.YtpboleiifmepeaaDoorAeRow
import Derived.Deep.DeepCutAuto
namespace Go.Proofs.YtpboleiifmepeaaDoor.deedsStayW
open Go.RowKit Go.Sort
set_option maxRecDepth 100000 in
set_option maxHeartbeats 8000000 in
theorem long (t : Int) (c : Bool) (x v : Int) (A : Option Addr) (cp : Nat) (l : List Ev) (w : World) (HAK : Hid (∀ X : World, Below w.heap.size w X → Asked X)) (hl2 : decide ((1000 : Int) < (l.length : Int)) = true) :
    Calls Tryd.prog 6 #[.agg #[.int .i64 t, .bool c, .int .i64 x, .int .i64 v], .slice A l.length cp] w (fun e w' => e = .returned (.bool true) ∧ Below w.heap.size w w') := by
  have HW := Lib.hid (fun X (hX : Below w.heap.size w X) => aeWorks_any X (HAK.out X hX))
  clear HAK
  obtain ⟨w1, HX1⟩ : ∃ W : World, Hid (W = (w.alloc (.cells #[.int .i64 t, .bool c, .int .i64 x, .int .i64 v] 23))) := ⟨_, Lib.hid rfl⟩
  have h_s1 : w1.heap[w.heap.size]? = some (.cells #[.int .i64 t, .bool c, .int .i64 x, .int .i64 v] 23 (0, 0)) := by rw [HX1.out]; exact heap_alloc_new _ _
  have hb1 : Below w.heap.size w w1 := by rw [HX1.out]; exact (Below.refl _ _).alloc (Nat.le_refl _) _
  have hz1 : w.heap.size + 1 ≤ w1.heap.size := by rw [HX1.out]; simp
  have c_s0 : w1.cell? ⟨w.heap.size, 0, none⟩ = some (.int .i64 t) := by rw [Lib.cell_of_heap h_s1]; rfl
  have c_s1 : w1.cell? ⟨w.heap.size, 1, none⟩ = some (.bool c) := by rw [Lib.cell_of_heap h_s1]; rfl
  have c_s2 : w1.cell? ⟨w.heap.size, 2, none⟩ = some (.int .i64 x) := by rw [Lib.cell_of_heap h_s1]; rfl
  have c_s3 : w1.cell? ⟨w.heap.size, 3, none⟩ = some (.int .i64 v) := by rw [Lib.cell_of_heap h_s1]; rfl
  go_enter Tryd.func6, Tryd.ntmps6
  go_wp2_with (rw [← HX1.out])
  refine (HW.out _ hb1).mono ?_
  rintro e w2 ⟨rfl, hb⟩
  clear c_s0 c_s1 c_s2 c_s3
  have h_s2 := (hb.block (w.heap.size) (by omega)).trans h_s1
  have hb2 : Below w.heap.size w w2 := hb1.trans (hb.mono (by omega))
  have hz2 : w1.heap.size ≤ w2.heap.size := hb.size
  clear hb
  go_wp2_with fail
  go_ret
  exact ⟨rfl, hb2⟩
set_option maxRecDepth 100000 in
set_option maxHeartbeats 8000000 in
theorem bad (t : Int) (c : Bool) (x v : Int) (A : Option Addr) (cp : Nat) (l : List Ev) (w : World) (HAK : Hid (∀ X : World, Below w.heap.size w X → Asked X)) (hl2 : decide ((1000 : Int) < (l.length : Int)) = false) (HM : Hid (∀ X : World, Calls Tryd.prog 15 #[.agg #[.int .i64 t, .bool c, .int .i64 x, .int .i64 v]] X (NumPost (.bool false) X))) :
    Calls Tryd.prog 6 #[.agg #[.int .i64 t, .bool c, .int .i64 x, .int .i64 v], .slice A l.length cp] w (fun e w' => e = .returned (.bool true) ∧ Below w.heap.size w w') := by
  have HW := Lib.hid (fun X (hX : Below w.heap.size w X) => aeWorks_any X (HAK.out X hX))
  clear HAK
  obtain ⟨w1, HX1⟩ : ∃ W : World, Hid (W = (w.alloc (.cells #[.int .i64 t, .bool c, .int .i64 x, .int .i64 v] 23))) := ⟨_, Lib.hid rfl⟩
  have h_s1 : w1.heap[w.heap.size]? = some (.cells #[.int .i64 t, .bool c, .int .i64 x, .int .i64 v] 23 (0, 0)) := by rw [HX1.out]; exact heap_alloc_new _ _
  have hb1 : Below w.heap.size w w1 := by rw [HX1.out]; exact (Below.refl _ _).alloc (Nat.le_refl _) _
  have hz1 : w.heap.size + 1 ≤ w1.heap.size := by rw [HX1.out]; simp
  have c_s0 : w1.cell? ⟨w.heap.size, 0, none⟩ = some (.int .i64 t) := by rw [Lib.cell_of_heap h_s1]; rfl
  have c_s1 : w1.cell? ⟨w.heap.size, 1, none⟩ = some (.bool c) := by rw [Lib.cell_of_heap h_s1]; rfl
  have c_s2 : w1.cell? ⟨w.heap.size, 2, none⟩ = some (.int .i64 x) := by rw [Lib.cell_of_heap h_s1]; rfl
  have c_s3 : w1.cell? ⟨w.heap.size, 3, none⟩ = some (.int .i64 v) := by rw [Lib.cell_of_heap h_s1]; rfl
  go_enter Tryd.func6, Tryd.ntmps6
  go_wp2_with (rw [← HX1.out])
  refine (HM.out _).mono ?_
  rintro e w2 ⟨rfl, hb⟩
  clear c_s0 c_s1 c_s2 c_s3
  have h_s2 := (hb.block (w.heap.size) (by omega)).trans h_s1
  have hb2 : Below w.heap.size w w2 := hb1.trans (hb.mono (by omega))
  have hz2 : w1.heap.size ≤ w2.heap.size := hb.size
  clear hb
  go_wp2_with fail
  refine (HW.out _ hb2).mono ?_
  rintro e w3 ⟨rfl, hb⟩
  have h_s3 := (hb.block (w.heap.size) (by omega)).trans h_s2
  have hb3 : Below w.heap.size w w3 := hb2.trans (hb.mono (by omega))
  have hz3 : w2.heap.size ≤ w3.heap.size := hb.size
  clear hb
  go_wp2_with fail
  go_ret
  exact ⟨rfl, hb3⟩
theorem far_four {W : World} {g b i : Nat} {a' b' c' d' : Value} (h : b ≠ g) : ((((W.setCell ⟨g, 0, none⟩ a').setCell ⟨g, 1, none⟩ b').setCell ⟨g, 2, none⟩ c').setCell ⟨g, 3, none⟩ d').cell? ⟨b, i, none⟩ = W.cell? ⟨b, i, none⟩ :=
  World.cell?_of_block ((Below.heap_setCell _ _ _ _ h).trans ((Below.heap_setCell _ _ _ _ h).trans ((Below.heap_setCell _ _ _ _ h).trans (Below.heap_setCell _ _ _ _ h))))
def StAt (W : World) (g : Nat) (r : St) : Prop := W.heap[g]? = some (.cells #[.int .i64 r.tag, .bool r.cl, .int .i64 r.sum, .int .i64 r.ver] 23 (0, 0))
theorem StAt.cells {W : World} {g : Nat} {t x v : Int} {c : Bool} (h : StAt W g ⟨t, c, x, v⟩) : W.cell? ⟨g, 0, none⟩ = some (.int .i64 t) ∧ W.cell? ⟨g, 1, none⟩ = some (.bool c) ∧ W.cell? ⟨g, 2, none⟩ = some (.int .i64 x) ∧ W.cell? ⟨g, 3, none⟩ = some (.int .i64 v) ∧ ∀ i, W.frozen? ⟨g, i, none⟩ = false :=
  ⟨by rw [Lib.cell_of_heap h]; rfl, by rw [Lib.cell_of_heap h]; rfl, by rw [Lib.cell_of_heap h]; rfl, by rw [Lib.cell_of_heap h]; rfl, fun i => Lib.frozen_of_heap h i⟩
set_option maxRecDepth 100000 in
set_option maxHeartbeats 8000000 in
theorem main (t : Int) (c : Bool) (x v : Int) (A : Option Addr) (cp : Nat) (l : List Ev) (w : World) (HAK : Hid (∀ X : World, Below w.heap.size w X → Asked X)) (hl2 : decide ((1000 : Int) < (l.length : Int)) = false) (hm : (St.mk t c x v).may = true) (HM : Hid (∀ X : World, Calls Tryd.prog 15 #[.agg #[.int .i64 t, .bool c, .int .i64 x, .int .i64 v]] X (NumPost (.bool true) X)))
    (HV : Hid (VsB w.heap.size w (.slice A l.length cp) l)) :
    Calls Tryd.prog 6 #[.agg #[.int .i64 t, .bool c, .int .i64 x, .int .i64 v], .slice A l.length cp] w (fun e w' => e = .returned (.bool true) ∧ Below w.heap.size w w') := by
  have HW := Lib.hid (fun X (hX : Below w.heap.size w X) => aeWorks_any X (HAK.out X hX))
  clear HAK
  obtain ⟨w1, HX1⟩ : ∃ W : World, Hid (W = (w.alloc (.cells #[.int .i64 t, .bool c, .int .i64 x, .int .i64 v] 23))) := ⟨_, Lib.hid rfl⟩
  have h_s1 : w1.heap[w.heap.size]? = some (.cells #[.int .i64 t, .bool c, .int .i64 x, .int .i64 v] 23 (0, 0)) := by rw [HX1.out]; exact heap_alloc_new _ _
  have hb1 : Below w.heap.size w w1 := by rw [HX1.out]; exact (Below.refl _ _).alloc (Nat.le_refl _) _
  have hz1 : w.heap.size + 1 ≤ w1.heap.size := by rw [HX1.out]; simp
  have c_s0 : w1.cell? ⟨w.heap.size, 0, none⟩ = some (.int .i64 t) := by rw [Lib.cell_of_heap h_s1]; rfl
  have c_s1 : w1.cell? ⟨w.heap.size, 1, none⟩ = some (.bool c) := by rw [Lib.cell_of_heap h_s1]; rfl
  have c_s2 : w1.cell? ⟨w.heap.size, 2, none⟩ = some (.int .i64 x) := by rw [Lib.cell_of_heap h_s1]; rfl
  have c_s3 : w1.cell? ⟨w.heap.size, 3, none⟩ = some (.int .i64 v) := by rw [Lib.cell_of_heap h_s1]; rfl
  go_enter Tryd.func6, Tryd.ntmps6
  have HM2 := Lib.hid (fun (r : St) X => lm_any r X)
  have HP := Lib.hid (fun (r : St) (e : Ev) X => apply_any r e X)
  go_wp2_with (rw [← HX1.out])
  refine (HM.out _).mono ?_
  rintro e w2 ⟨rfl, hb⟩
  clear c_s0 c_s1 c_s2 c_s3
  have h_s2 := (hb.block (w.heap.size) (by omega)).trans h_s1
  have hb2 : Below w.heap.size w w2 := hb1.trans (hb.mono (by omega))
  have hz2 : w1.heap.size ≤ w2.heap.size := hb.size
  clear hb
  go_wp2_with fail
  go_loopw [5] (fun i wr => ∃ (k : Nat) (r : St), k ≤ l.length ∧ i = .int .i64 k ∧ Hid (r.may = true) ∧ Hid (StAt wr w.heap.size r) ∧ Hid (Below w.heap.size w wr) ∧ w.heap.size < wr.heap.size) (fun i _ => l.length - (intOf i).toNat)
  case atStart => exact ⟨0, ⟨t, c, x, v⟩, Nat.zero_le _, rfl, Lib.hid hm, Lib.hid h_s2, Lib.hid hb2, by omega⟩
  case round =>
    obtain ⟨k, r, hk, rfl, HR, HST, HB, hlr⟩ := hrel
    clear hm h_s1 h_s2 hb1 hb2 hz1 hz2 HX1 HM
    by_cases hlt : k < l.length
    · obtain ⟨b1, o1, c1', hv, hbb1, x0, x1⟩ := VsB.cells (RdB.below HV.out HB.out (Nat.le_refl _)) hlt
      injection hv with e1 e2 e3
      subst e1 e3
      clear e2
      have hii : (k : Int) < (l.length : Int) := by omega
      have hkb : (k : Int) ≤ 1000 := by have := of_decide_eq_false hl2; omega
      have hbl : b1 < wr.heap.size := by omega
      generalize l[k] = ev at *
      obtain ⟨ek, ea⟩ := ev
      have HT := Lib.hid (app_may ⟨ek, ea⟩ HR.out)
      have HP1 := Lib.hid (HP.out r ⟨ek, ea⟩)
      have HLC := Lib.hid (show app r ⟨ek, ea⟩ = if lets r ⟨ek, ea⟩ then next r ⟨ek, ea⟩ else r from rfl)
      obtain ⟨T, HTT⟩ : ∃ T, Hid (T = app r ⟨ek, ea⟩) := ⟨_, Lib.hid rfl⟩
      rw [← HTT.out] at HT HP1
      obtain ⟨t1, c1, x1', v1⟩ := r
      obtain ⟨t2, c2, x2, v2⟩ := T
      have hst := HST.out.cells
      simp only [St.v, Ev.v] at HP1
      obtain ⟨s0, s1, s2, s3, sf⟩ := hst
      go_upto_region 6 with fail
      go_cut [6] (fun u wx => ∃ g : Nat, u = .pointer (some ⟨g, 0, none⟩) ∧ Hid (StAt wx g ⟨t2, c2, x2, v2⟩) ∧ Hid (StAt wx w.heap.size ⟨t1, c1, x1', v1⟩) ∧ Hid (Below w.heap.size w wx) ∧ g < wx.heap.size ∧ w.heap.size < g)
      case first =>
        have hlr1 : w.heap.size < wr.heap.size + 1 := by omega
        have hbl1 : b1 < wr.heap.size + 1 := by omega
        have n0 := World.new_ne wr.drew ⟨w.heap.size, 0, none⟩ (u := .int .i64 t1) s0
        have n1 := World.new_ne wr.drew ⟨w.heap.size, 1, none⟩ (u := .bool c1) s1
        have n2 := World.new_ne wr.drew ⟨w.heap.size, 2, none⟩ (u := .int .i64 x1') s2
        have n3 := World.new_ne wr.drew ⟨w.heap.size, 3, none⟩ (u := .int .i64 v1) s3
        have n4 := World.new_ne wr.drew ⟨b1, o1 + k * 2, none⟩ (u := .int .i64 ek) x0
        have n5 := World.new_ne wr.drew ⟨b1, o1 + k * 2 + 1, none⟩ (u := .int .i64 ea) x1
        clear HV HM2 HP HLC HT HTT hbb1
        go_region_held3 (fun X => X.cell? ⟨w.heap.size, 0, none⟩ = some (.int .i64 t1) ∧ X.cell? ⟨w.heap.size, 1, none⟩ = some (.bool c1) ∧ X.cell? ⟨w.heap.size, 2, none⟩ = some (.int .i64 x1') ∧ X.cell? ⟨w.heap.size, 3, none⟩ = some (.int .i64 v1) ∧ X.cell? ⟨b1, o1 + k * 2, none⟩ = some (.int .i64 ek) ∧ X.cell? ⟨b1, o1 + k * 2 + 1, none⟩ = some (.int .i64 ea)) (first | exact hS5 | go_keep | (refine ⟨?_, ?_, ?_, ?_, ?_, ?_⟩ <;> (rw [far_four (by omega)]; first | exact hS5.1 | exact hS5.2.1 | exact hS5.2.2.1 | exact hS5.2.2.2.1 | exact hS5.2.2.2.2.1 | exact hS5.2.2.2.2.2))) ((go_at_call 13; (refine (HP1.out _).mono ?_); rintro e w5 ⟨rfl, hb⟩; obtain ⟨hc, hf⟩ := bcell hb; have hS5 : w5.cell? ⟨w.heap.size, 0, none⟩ = some (.int .i64 t1) ∧ w5.cell? ⟨w.heap.size, 1, none⟩ = some (.bool c1) ∧ w5.cell? ⟨w.heap.size, 2, none⟩ = some (.int .i64 x1') ∧ w5.cell? ⟨w.heap.size, 3, none⟩ = some (.int .i64 v1) ∧ w5.cell? ⟨b1, o1 + k * 2, none⟩ = some (.int .i64 ek) ∧ w5.cell? ⟨b1, o1 + k * 2 + 1, none⟩ = some (.int .i64 ea) := ⟨(by rw [hc _ _ (by first | exact hlr | (simp; omega))]; first | exact s0 | go_keep), (by rw [hc _ _ (by first | exact hlr | (simp; omega))]; first | exact s1 | go_keep), (by rw [hc _ _ (by first | exact hlr | (simp; omega))]; first | exact s2 | go_keep), (by rw [hc _ _ (by first | exact hlr | (simp; omega))]; first | exact s3 | go_keep), (by rw [hc _ _ (by first | exact hbl | (simp; omega))]; first | exact x0 | go_keep), (by rw [hc _ _ (by first | exact hbl | (simp; omega))]; first | exact x1 | go_keep)⟩))
        · have hsz : wr.heap.size ≤ w5.heap.size := hb.size
          have h5 : StAt w5 w.heap.size ⟨t1, c1, x1', v1⟩ := (hb.block _ hlr).trans HST.out
          have hB5 : Below w.heap.size w w5 := HB.out.drew.trans (hb.mono HB.out.size)
          clear hc hf hb hS5
          go_wp2_with fail
          go_meet
          case rel => exact ⟨w5.heap.size, rfl, Lib.hid (heap_alloc_new _ _), Lib.hid ((((Below.refl _ _).alloc (Nat.le_refl _) _ : Below w5.heap.size w5 (w5.alloc _)).block _ (by omega)).trans h5), Lib.hid (hB5.alloc (by omega) _), by simp, by omega⟩
        · have hsz : wr.heap.size + 1 ≤ w5.heap.size := by have := hb.size; simpa using this
          have hX : Below wr.heap.size wr (wr.alloc (.cells #[.int .i64 0, .bool false, .int .i64 0, .int .i64 0] 23)) := (Below.refl _ _).alloc (Nat.le_refl _) _
          have h5 : StAt w5 w.heap.size ⟨t1, c1, x1', v1⟩ := (hb.block _ (by simp; omega)).trans ((hX.block _ hlr).trans HST.out)
          have h6 : w5.heap[wr.heap.size]? = some (.cells #[.int .i64 0, .bool false, .int .i64 0, .int .i64 0] 23 (0, 0)) := (hb.block _ (by simp)).trans (heap_alloc_new _ _)
          have hB5 : Below w.heap.size w w5 := (HB.out.trans (hX.mono HB.out.size)).drew.trans (hb.mono (by simp; omega))
          clear hc hf hb hS5 hX
          obtain ⟨g1, g2, g3, g4⟩ := set_four (n := w.heap.size) (a' := .int .i64 t2) (b' := .bool c2) (c' := .int .i64 x2) (d' := .int .i64 v2) h6 (by omega) rfl
          have G1 := Lib.hid g1
          have G2 := Lib.hid (hB5.trans g2)
          have G4 := Lib.hid ((g4 w.heap.size (by omega)).trans h5)
          have hg3 : wr.heap.size < ((((w5.setCell ⟨wr.heap.size, 0, none⟩ (.int .i64 t2)).setCell ⟨wr.heap.size, 1, none⟩ (.bool c2)).setCell ⟨wr.heap.size, 2, none⟩ (.int .i64 x2)).setCell ⟨wr.heap.size, 3, none⟩ (.int .i64 v2)).heap.size := by rw [g3]; omega
          clear g1 g2 g3 g4 h5 h6 hB5
          go_wp2_with fail
          go_meet
          case rel => exact ⟨wr.heap.size, rfl, G1, G4, G2, hg3, hlr⟩
      case rest =>
      obtain ⟨g, rfl, HT6, HS6, HB6, hg6, hgw⟩ := hcut
      clear x0 x1 s0 s1 s2 s3 sf HST HB HP1 hlr hbl hbb1
      have hws : w.heap.size < wc.heap.size := by omega
      obtain ⟨y0, y1, y2, y3, yf⟩ := HT6.out.cells
      obtain ⟨z0, z1, z2, z3, zf⟩ := HS6.out.cells
      have HA1 := Lib.hid (HR.out)
      have hm2 := fun X => HM2.out ⟨t2, c2, x2, v2⟩ X
      rw [HT.out] at hm2
      have hr := (may_iff _).1 HR.out
      clear HM2
      simp only at hr
      simp only [St.v] at hm2
      rcases hll : lets ⟨t1, c1, x1', v1⟩ ⟨ek, ea⟩ with _ | _
      · obtain ⟨rfl, rfl, rfl, rfl⟩ := St.mk.inj (HTT.out.trans (app_no hll))
        clear HTT hll
        cases c2
        · by_cases h3 : t2 = 3
          · subst h3
            have tw : IntKind.i64.wrap (v2 + 1) = v2 + 1 := IntWalk.i64_in _ (by omega)
            have tv : decide (v2 + 1 < v2) = false := decide_eq_false (by omega)
            clear hr
            obtain ⟨y0, y1, y2, y3, -⟩ := HT6.out.cells
            obtain ⟨z0, z1, z2, z3, -⟩ := HS6.out.cells
            have ky0 : ∀ d' os, (grow (redrawn wc d') os).cell? ⟨g, 0, none⟩ = some (.int .i64 3) := fun d' os => cell_regrown y0 d' os
            have ky1 : ∀ d' os, (grow (redrawn wc d') os).cell? ⟨g, 1, none⟩ = some (.bool false) := fun d' os => cell_regrown y1 d' os
            have ky2 : ∀ d' os, (grow (redrawn wc d') os).cell? ⟨g, 2, none⟩ = some (.int .i64 x2) := fun d' os => cell_regrown y2 d' os
            have ky3 : ∀ d' os, (grow (redrawn wc d') os).cell? ⟨g, 3, none⟩ = some (.int .i64 v2) := fun d' os => cell_regrown y3 d' os
            have kz0 : ∀ d' os, (grow (redrawn wc d') os).cell? ⟨w.heap.size, 0, none⟩ = some (.int .i64 3) := fun d' os => cell_regrown z0 d' os
            have kz1 : ∀ d' os, (grow (redrawn wc d') os).cell? ⟨w.heap.size, 1, none⟩ = some (.bool false) := fun d' os => cell_regrown z1 d' os
            have kz2 : ∀ d' os, (grow (redrawn wc d') os).cell? ⟨w.heap.size, 2, none⟩ = some (.int .i64 x2) := fun d' os => cell_regrown z2 d' os
            have kz3 : ∀ d' os, (grow (redrawn wc d') os).cell? ⟨w.heap.size, 3, none⟩ = some (.int .i64 v2) := fun d' os => cell_regrown z3 d' os
            have c0 : ∀ d' os, Calls Tryd.prog 15 #[.agg #[.int .i64 3, .bool false, .int .i64 x2, .int .i64 v2]] (grow (redrawn wc d') os) fun e w'' => e = .returned (.bool true) ∧ ∃ p : Regrown, w'' = grow (redrawn wc p.d) p.os := fun d' os => Calls.regrown_of (hm2 _)
            clear hm2 y0 y1 y2 y3 z0 z1 z2 z3
            go_wp2_with fail
            refine wp_region_quiet_below (by kernel_rfl) (by kernel_rfl) ?_
            repeat (go_big_quiet_step (with_reducible exact c0 _ _))
            refine wpQuiet_nil ?_
            intro _ hw'
            obtain ⟨⟨dq, osq⟩, hw''⟩ := hw'
            subst hw''
            have hbq := below_regrown wc dq osq
            generalize grow (redrawn wc dq) osq = w8 at *
            clear ky0 ky1 ky2 ky3 kz0 kz1 kz2 kz3 c0
            have hs8 : wc.heap.size ≤ w8.heap.size := hbq.size
            have HT8 : StAt w8 g ⟨3, false, x2, v2⟩ := (hbq.block _ hg6).trans HT6.out
            have HS8 : StAt w8 w.heap.size ⟨3, false, x2, v2⟩ := (hbq.block _ hws).trans HS6.out
            have HB8 := HB6.out.trans (hbq.mono HB6.out.size)
            clear hbq
            obtain ⟨y0, y1, y2, y3, -⟩ := HT8.cells
            obtain ⟨z0, z1, z2, z3, zf⟩ := HS8.cells
            go_wp2_with fail
            go_roundw
            case rel => exact ⟨k + 1, ⟨3, false, x2, v2⟩, by omega, by go_num, HT, Lib.hid (set_four (n := w.heap.size) HS8 (Nat.le_refl _) rfl).1, Lib.hid (HB8.trans (set_four (n := w.heap.size) HS8 (Nat.le_refl _) rfl).2.1), by rw [(set_four (n := w.heap.size) HS8 (Nat.le_refl _) rfl).2.2.1]; omega⟩
            case measure => simp [intOf]; omega
          have u3 : (t2 == 3) = false := by simp [h3]
          by_cases h0 : t2 = 0
          · subst h0
            have tw : IntKind.i64.wrap (v2 + 1) = v2 + 1 := IntWalk.i64_in _ (by omega)
            have tv : decide (v2 + 1 < v2) = false := decide_eq_false (by omega)
            clear hr
            obtain ⟨y0, y1, y2, y3, -⟩ := HT6.out.cells
            obtain ⟨z0, z1, z2, z3, -⟩ := HS6.out.cells
            have ky0 : ∀ d' os, (grow (redrawn wc d') os).cell? ⟨g, 0, none⟩ = some (.int .i64 0) := fun d' os => cell_regrown y0 d' os
            have ky1 : ∀ d' os, (grow (redrawn wc d') os).cell? ⟨g, 1, none⟩ = some (.bool false) := fun d' os => cell_regrown y1 d' os
            have ky2 : ∀ d' os, (grow (redrawn wc d') os).cell? ⟨g, 2, none⟩ = some (.int .i64 x2) := fun d' os => cell_regrown y2 d' os
            have ky3 : ∀ d' os, (grow (redrawn wc d') os).cell? ⟨g, 3, none⟩ = some (.int .i64 v2) := fun d' os => cell_regrown y3 d' os
            have kz0 : ∀ d' os, (grow (redrawn wc d') os).cell? ⟨w.heap.size, 0, none⟩ = some (.int .i64 0) := fun d' os => cell_regrown z0 d' os
            have kz1 : ∀ d' os, (grow (redrawn wc d') os).cell? ⟨w.heap.size, 1, none⟩ = some (.bool false) := fun d' os => cell_regrown z1 d' os
            have kz2 : ∀ d' os, (grow (redrawn wc d') os).cell? ⟨w.heap.size, 2, none⟩ = some (.int .i64 x2) := fun d' os => cell_regrown z2 d' os
            have kz3 : ∀ d' os, (grow (redrawn wc d') os).cell? ⟨w.heap.size, 3, none⟩ = some (.int .i64 v2) := fun d' os => cell_regrown z3 d' os
            have c0 : ∀ d' os, Calls Tryd.prog 15 #[.agg #[.int .i64 0, .bool false, .int .i64 x2, .int .i64 v2]] (grow (redrawn wc d') os) fun e w'' => e = .returned (.bool true) ∧ ∃ p : Regrown, w'' = grow (redrawn wc p.d) p.os := fun d' os => Calls.regrown_of (hm2 _)
            clear hm2 y0 y1 y2 y3 z0 z1 z2 z3
            go_wp2_with fail
            refine wp_region_quiet_below (by kernel_rfl) (by kernel_rfl) ?_
            repeat (go_big_quiet_step (with_reducible exact c0 _ _))
            refine wpQuiet_nil ?_
            intro _ hw'
            obtain ⟨⟨dq, osq⟩, hw''⟩ := hw'
            subst hw''
            have hbq := below_regrown wc dq osq
            generalize grow (redrawn wc dq) osq = w8 at *
            clear ky0 ky1 ky2 ky3 kz0 kz1 kz2 kz3 c0
            have hs8 : wc.heap.size ≤ w8.heap.size := hbq.size
            have HT8 : StAt w8 g ⟨0, false, x2, v2⟩ := (hbq.block _ hg6).trans HT6.out
            have HS8 : StAt w8 w.heap.size ⟨0, false, x2, v2⟩ := (hbq.block _ hws).trans HS6.out
            have HB8 := HB6.out.trans (hbq.mono HB6.out.size)
            clear hbq
            obtain ⟨y0, y1, y2, y3, -⟩ := HT8.cells
            obtain ⟨z0, z1, z2, z3, zf⟩ := HS8.cells
            go_wp2_with fail
            go_roundw
            case rel => exact ⟨k + 1, ⟨0, false, x2, v2⟩, by omega, by go_num, HT, Lib.hid (set_four (n := w.heap.size) HS8 (Nat.le_refl _) rfl).1, Lib.hid (HB8.trans (set_four (n := w.heap.size) HS8 (Nat.le_refl _) rfl).2.1), by rw [(set_four (n := w.heap.size) HS8 (Nat.le_refl _) rfl).2.2.1]; omega⟩
            case measure => simp [intOf]; omega
          have u0 : (t2 == 0) = false := by simp [h0]
          have tw : IntKind.i64.wrap (v2 + 1) = v2 + 1 := IntWalk.i64_in _ (by omega)
          have tv : decide (v2 + 1 < v2) = false := decide_eq_false (by omega)
          clear hr
          obtain ⟨y0, y1, y2, y3, -⟩ := HT6.out.cells
          obtain ⟨z0, z1, z2, z3, -⟩ := HS6.out.cells
          have ky0 : ∀ d' os, (grow (redrawn wc d') os).cell? ⟨g, 0, none⟩ = some (.int .i64 t2) := fun d' os => cell_regrown y0 d' os
          have ky1 : ∀ d' os, (grow (redrawn wc d') os).cell? ⟨g, 1, none⟩ = some (.bool false) := fun d' os => cell_regrown y1 d' os
          have ky2 : ∀ d' os, (grow (redrawn wc d') os).cell? ⟨g, 2, none⟩ = some (.int .i64 x2) := fun d' os => cell_regrown y2 d' os
          have ky3 : ∀ d' os, (grow (redrawn wc d') os).cell? ⟨g, 3, none⟩ = some (.int .i64 v2) := fun d' os => cell_regrown y3 d' os
          have kz0 : ∀ d' os, (grow (redrawn wc d') os).cell? ⟨w.heap.size, 0, none⟩ = some (.int .i64 t2) := fun d' os => cell_regrown z0 d' os
          have kz1 : ∀ d' os, (grow (redrawn wc d') os).cell? ⟨w.heap.size, 1, none⟩ = some (.bool false) := fun d' os => cell_regrown z1 d' os
          have kz2 : ∀ d' os, (grow (redrawn wc d') os).cell? ⟨w.heap.size, 2, none⟩ = some (.int .i64 x2) := fun d' os => cell_regrown z2 d' os
          have kz3 : ∀ d' os, (grow (redrawn wc d') os).cell? ⟨w.heap.size, 3, none⟩ = some (.int .i64 v2) := fun d' os => cell_regrown z3 d' os
          have c0 : ∀ d' os, Calls Tryd.prog 15 #[.agg #[.int .i64 t2, .bool false, .int .i64 x2, .int .i64 v2]] (grow (redrawn wc d') os) fun e w'' => e = .returned (.bool true) ∧ ∃ p : Regrown, w'' = grow (redrawn wc p.d) p.os := fun d' os => Calls.regrown_of (hm2 _)
          clear hm2 y0 y1 y2 y3 z0 z1 z2 z3
          go_wp2_with fail
          refine wp_region_quiet_below (by kernel_rfl) (by kernel_rfl) ?_
          repeat (go_big_quiet_step (with_reducible exact c0 _ _))
          refine wpQuiet_nil ?_
          intro _ hw'
          obtain ⟨⟨dq, osq⟩, hw''⟩ := hw'
          subst hw''
          have hbq := below_regrown wc dq osq
          generalize grow (redrawn wc dq) osq = w8 at *
          clear ky0 ky1 ky2 ky3 kz0 kz1 kz2 kz3 c0
          have hs8 : wc.heap.size ≤ w8.heap.size := hbq.size
          have HT8 : StAt w8 g ⟨t2, false, x2, v2⟩ := (hbq.block _ hg6).trans HT6.out
          have HS8 : StAt w8 w.heap.size ⟨t2, false, x2, v2⟩ := (hbq.block _ hws).trans HS6.out
          have HB8 := HB6.out.trans (hbq.mono HB6.out.size)
          clear hbq
          obtain ⟨y0, y1, y2, y3, -⟩ := HT8.cells
          obtain ⟨z0, z1, z2, z3, zf⟩ := HS8.cells
          go_wp2_with fail
          go_roundw
          case rel => exact ⟨k + 1, ⟨t2, false, x2, v2⟩, by omega, by go_num, HT, Lib.hid (set_four (n := w.heap.size) HS8 (Nat.le_refl _) rfl).1, Lib.hid (HB8.trans (set_four (n := w.heap.size) HS8 (Nat.le_refl _) rfl).2.1), by rw [(set_four (n := w.heap.size) HS8 (Nat.le_refl _) rfl).2.2.1]; omega⟩
          case measure => simp [intOf]; omega
        · by_cases h3 : t2 = 3
          · subst h3
            have tw : IntKind.i64.wrap (v2 + 1) = v2 + 1 := IntWalk.i64_in _ (by omega)
            have tv : decide (v2 + 1 < v2) = false := decide_eq_false (by omega)
            clear hr
            obtain ⟨y0, y1, y2, y3, -⟩ := HT6.out.cells
            obtain ⟨z0, z1, z2, z3, -⟩ := HS6.out.cells
            have ky0 : ∀ d' os, (grow (redrawn wc d') os).cell? ⟨g, 0, none⟩ = some (.int .i64 3) := fun d' os => cell_regrown y0 d' os
            have ky1 : ∀ d' os, (grow (redrawn wc d') os).cell? ⟨g, 1, none⟩ = some (.bool true) := fun d' os => cell_regrown y1 d' os
            have ky2 : ∀ d' os, (grow (redrawn wc d') os).cell? ⟨g, 2, none⟩ = some (.int .i64 x2) := fun d' os => cell_regrown y2 d' os
            have ky3 : ∀ d' os, (grow (redrawn wc d') os).cell? ⟨g, 3, none⟩ = some (.int .i64 v2) := fun d' os => cell_regrown y3 d' os
            have kz0 : ∀ d' os, (grow (redrawn wc d') os).cell? ⟨w.heap.size, 0, none⟩ = some (.int .i64 3) := fun d' os => cell_regrown z0 d' os
            have kz1 : ∀ d' os, (grow (redrawn wc d') os).cell? ⟨w.heap.size, 1, none⟩ = some (.bool true) := fun d' os => cell_regrown z1 d' os
            have kz2 : ∀ d' os, (grow (redrawn wc d') os).cell? ⟨w.heap.size, 2, none⟩ = some (.int .i64 x2) := fun d' os => cell_regrown z2 d' os
            have kz3 : ∀ d' os, (grow (redrawn wc d') os).cell? ⟨w.heap.size, 3, none⟩ = some (.int .i64 v2) := fun d' os => cell_regrown z3 d' os
            have c0 : ∀ d' os, Calls Tryd.prog 15 #[.agg #[.int .i64 3, .bool true, .int .i64 x2, .int .i64 v2]] (grow (redrawn wc d') os) fun e w'' => e = .returned (.bool true) ∧ ∃ p : Regrown, w'' = grow (redrawn wc p.d) p.os := fun d' os => Calls.regrown_of (hm2 _)
            clear hm2 y0 y1 y2 y3 z0 z1 z2 z3
            go_wp2_with fail
            refine wp_region_quiet_below (by kernel_rfl) (by kernel_rfl) ?_
            repeat (go_big_quiet_step (with_reducible exact c0 _ _))
            refine wpQuiet_nil ?_
            intro _ hw'
            obtain ⟨⟨dq, osq⟩, hw''⟩ := hw'
            subst hw''
            have hbq := below_regrown wc dq osq
            generalize grow (redrawn wc dq) osq = w8 at *
            clear ky0 ky1 ky2 ky3 kz0 kz1 kz2 kz3 c0
            have hs8 : wc.heap.size ≤ w8.heap.size := hbq.size
            have HT8 : StAt w8 g ⟨3, true, x2, v2⟩ := (hbq.block _ hg6).trans HT6.out
            have HS8 : StAt w8 w.heap.size ⟨3, true, x2, v2⟩ := (hbq.block _ hws).trans HS6.out
            have HB8 := HB6.out.trans (hbq.mono HB6.out.size)
            clear hbq
            obtain ⟨y0, y1, y2, y3, -⟩ := HT8.cells
            obtain ⟨z0, z1, z2, z3, zf⟩ := HS8.cells
            go_wp2_with fail
            go_roundw
            case rel => exact ⟨k + 1, ⟨3, true, x2, v2⟩, by omega, by go_num, HT, Lib.hid (set_four (n := w.heap.size) HS8 (Nat.le_refl _) rfl).1, Lib.hid (HB8.trans (set_four (n := w.heap.size) HS8 (Nat.le_refl _) rfl).2.1), by rw [(set_four (n := w.heap.size) HS8 (Nat.le_refl _) rfl).2.2.1]; omega⟩
            case measure => simp [intOf]; omega
          have u3 : (t2 == 3) = false := by simp [h3]
          by_cases h0 : t2 = 0
          · subst h0
            exfalso; simp at hr
          have u0 : (t2 == 0) = false := by simp [h0]
          have tw : IntKind.i64.wrap (v2 + 1) = v2 + 1 := IntWalk.i64_in _ (by omega)
          have tv : decide (v2 + 1 < v2) = false := decide_eq_false (by omega)
          clear hr
          obtain ⟨y0, y1, y2, y3, -⟩ := HT6.out.cells
          obtain ⟨z0, z1, z2, z3, -⟩ := HS6.out.cells
          have ky0 : ∀ d' os, (grow (redrawn wc d') os).cell? ⟨g, 0, none⟩ = some (.int .i64 t2) := fun d' os => cell_regrown y0 d' os
          have ky1 : ∀ d' os, (grow (redrawn wc d') os).cell? ⟨g, 1, none⟩ = some (.bool true) := fun d' os => cell_regrown y1 d' os
          have ky2 : ∀ d' os, (grow (redrawn wc d') os).cell? ⟨g, 2, none⟩ = some (.int .i64 x2) := fun d' os => cell_regrown y2 d' os
          have ky3 : ∀ d' os, (grow (redrawn wc d') os).cell? ⟨g, 3, none⟩ = some (.int .i64 v2) := fun d' os => cell_regrown y3 d' os
          have kz0 : ∀ d' os, (grow (redrawn wc d') os).cell? ⟨w.heap.size, 0, none⟩ = some (.int .i64 t2) := fun d' os => cell_regrown z0 d' os
          have kz1 : ∀ d' os, (grow (redrawn wc d') os).cell? ⟨w.heap.size, 1, none⟩ = some (.bool true) := fun d' os => cell_regrown z1 d' os
          have kz2 : ∀ d' os, (grow (redrawn wc d') os).cell? ⟨w.heap.size, 2, none⟩ = some (.int .i64 x2) := fun d' os => cell_regrown z2 d' os
          have kz3 : ∀ d' os, (grow (redrawn wc d') os).cell? ⟨w.heap.size, 3, none⟩ = some (.int .i64 v2) := fun d' os => cell_regrown z3 d' os
          have c0 : ∀ d' os, Calls Tryd.prog 15 #[.agg #[.int .i64 t2, .bool true, .int .i64 x2, .int .i64 v2]] (grow (redrawn wc d') os) fun e w'' => e = .returned (.bool true) ∧ ∃ p : Regrown, w'' = grow (redrawn wc p.d) p.os := fun d' os => Calls.regrown_of (hm2 _)
          clear hm2 y0 y1 y2 y3 z0 z1 z2 z3
          go_wp2_with fail
          refine wp_region_quiet_below (by kernel_rfl) (by kernel_rfl) ?_
          repeat (go_big_quiet_step (with_reducible exact c0 _ _))
          refine wpQuiet_nil ?_
          intro _ hw'
          obtain ⟨⟨dq, osq⟩, hw''⟩ := hw'
          subst hw''
          have hbq := below_regrown wc dq osq
          generalize grow (redrawn wc dq) osq = w8 at *
          clear ky0 ky1 ky2 ky3 kz0 kz1 kz2 kz3 c0
          have hs8 : wc.heap.size ≤ w8.heap.size := hbq.size
          have HT8 : StAt w8 g ⟨t2, true, x2, v2⟩ := (hbq.block _ hg6).trans HT6.out
          have HS8 : StAt w8 w.heap.size ⟨t2, true, x2, v2⟩ := (hbq.block _ hws).trans HS6.out
          have HB8 := HB6.out.trans (hbq.mono HB6.out.size)
          clear hbq
          obtain ⟨y0, y1, y2, y3, -⟩ := HT8.cells
          obtain ⟨z0, z1, z2, z3, zf⟩ := HS8.cells
          go_wp2_with fail
          go_roundw
          case rel => exact ⟨k + 1, ⟨t2, true, x2, v2⟩, by omega, by go_num, HT, Lib.hid (set_four (n := w.heap.size) HS8 (Nat.le_refl _) rfl).1, Lib.hid (HB8.trans (set_four (n := w.heap.size) HS8 (Nat.le_refl _) rfl).2.1), by rw [(set_four (n := w.heap.size) HS8 (Nat.le_refl _) rfl).2.2.1]; omega⟩
          case measure => simp [intOf]; omega
      · have e := HTT.out.trans (app_yes hll)
        obtain ⟨-, hcc⟩ := (lets_iff _ _).1 hll
        obtain ⟨hv, rfl, hcc⟩ := (comes_iff _ _).1 hcc
        clear HTT hll
        simp only at hv hcc
        rcases hcc with ⟨rfl, hc1, hc2, hc3⟩ | ⟨rfl, hc1, hc2, hc3⟩ | ⟨rfl, hc1, hc2⟩ | ⟨rfl, hc1, hc2, hc3⟩
        · simp [next] at e
          obtain ⟨rfl, rfl, rfl, rfl⟩ := e
          subst hc1
          obtain ⟨rfl, rfl⟩ : x2 = 0 ∧ v1 = 0 := by omega
          have u0 : (t2 == 0) = false := by simp; omega
          clear hr
          obtain ⟨y0, y1, y2, y3, -⟩ := HT6.out.cells
          obtain ⟨z0, z1, z2, z3, -⟩ := HS6.out.cells
          have ky0 : ∀ d' os, (grow (redrawn wc d') os).cell? ⟨g, 0, none⟩ = some (.int .i64 t2) := fun d' os => cell_regrown y0 d' os
          have ky1 : ∀ d' os, (grow (redrawn wc d') os).cell? ⟨g, 1, none⟩ = some (.bool false) := fun d' os => cell_regrown y1 d' os
          have ky2 : ∀ d' os, (grow (redrawn wc d') os).cell? ⟨g, 2, none⟩ = some (.int .i64 0) := fun d' os => cell_regrown y2 d' os
          have ky3 : ∀ d' os, (grow (redrawn wc d') os).cell? ⟨g, 3, none⟩ = some (.int .i64 1) := fun d' os => cell_regrown y3 d' os
          have kz0 : ∀ d' os, (grow (redrawn wc d') os).cell? ⟨w.heap.size, 0, none⟩ = some (.int .i64 0) := fun d' os => cell_regrown z0 d' os
          have kz1 : ∀ d' os, (grow (redrawn wc d') os).cell? ⟨w.heap.size, 1, none⟩ = some (.bool false) := fun d' os => cell_regrown z1 d' os
          have kz2 : ∀ d' os, (grow (redrawn wc d') os).cell? ⟨w.heap.size, 2, none⟩ = some (.int .i64 0) := fun d' os => cell_regrown z2 d' os
          have kz3 : ∀ d' os, (grow (redrawn wc d') os).cell? ⟨w.heap.size, 3, none⟩ = some (.int .i64 0) := fun d' os => cell_regrown z3 d' os
          have c0 : ∀ d' os, Calls Tryd.prog 15 #[.agg #[.int .i64 t2, .bool false, .int .i64 0, .int .i64 1]] (grow (redrawn wc d') os) fun e w'' => e = .returned (.bool true) ∧ ∃ p : Regrown, w'' = grow (redrawn wc p.d) p.os := fun d' os => Calls.regrown_of (hm2 _)
          clear hm2 y0 y1 y2 y3 z0 z1 z2 z3
          go_wp2_with fail
          refine wp_region_quiet_below (by kernel_rfl) (by kernel_rfl) ?_
          repeat (go_big_quiet_step (with_reducible exact c0 _ _))
          refine wpQuiet_nil ?_
          intro _ hw'
          obtain ⟨⟨dq, osq⟩, hw''⟩ := hw'
          subst hw''
          have hbq := below_regrown wc dq osq
          generalize grow (redrawn wc dq) osq = w8 at *
          clear ky0 ky1 ky2 ky3 kz0 kz1 kz2 kz3 c0
          have hs8 : wc.heap.size ≤ w8.heap.size := hbq.size
          have HT8 : StAt w8 g ⟨t2, false, 0, 1⟩ := (hbq.block _ hg6).trans HT6.out
          have HS8 : StAt w8 w.heap.size ⟨0, false, 0, 0⟩ := (hbq.block _ hws).trans HS6.out
          have HB8 := HB6.out.trans (hbq.mono HB6.out.size)
          clear hbq
          obtain ⟨y0, y1, y2, y3, -⟩ := HT8.cells
          obtain ⟨z0, z1, z2, z3, zf⟩ := HS8.cells
          go_wp2_with fail
          go_roundw
          case rel => exact ⟨k + 1, ⟨t2, false, 0, 1⟩, by omega, by go_num, HT, Lib.hid (set_four (n := w.heap.size) HS8 (Nat.le_refl _) rfl).1, Lib.hid (HB8.trans (set_four (n := w.heap.size) HS8 (Nat.le_refl _) rfl).2.1), by rw [(set_four (n := w.heap.size) HS8 (Nat.le_refl _) rfl).2.2.1]; omega⟩
          case measure => simp [intOf]; omega
        · simp [next] at e
          obtain ⟨rfl, rfl, rfl, rfl⟩ := e
          have u0 : (t2 == 0) = false := by simp [hc1]
          by_cases h3 : t2 = 3
          · subst h3
            have tw : IntKind.i64.wrap (v1 + 1) = v1 + 1 := IntWalk.i64_in _ (by omega)
            have tv : decide (v1 + 1 < v1) = false := decide_eq_false (by omega)
            have tu : decide (v1 + 1 < v1 + 1) = false := decide_eq_false (by omega)
            have te : (v1 + 1 == v1) = false := by simp; omega
            have ts : (x1' + ea == x1') = false := by simp; omega
            have tl : decide (x1' + ea < x1') = false := decide_eq_false (by omega)
            clear hr
            obtain ⟨y0, y1, y2, y3, -⟩ := HT6.out.cells
            obtain ⟨z0, z1, z2, z3, -⟩ := HS6.out.cells
            have ky0 : ∀ d' os, (grow (redrawn wc d') os).cell? ⟨g, 0, none⟩ = some (.int .i64 3) := fun d' os => cell_regrown y0 d' os
            have ky1 : ∀ d' os, (grow (redrawn wc d') os).cell? ⟨g, 1, none⟩ = some (.bool false) := fun d' os => cell_regrown y1 d' os
            have ky2 : ∀ d' os, (grow (redrawn wc d') os).cell? ⟨g, 2, none⟩ = some (.int .i64 (x1' + ea)) := fun d' os => cell_regrown y2 d' os
            have ky3 : ∀ d' os, (grow (redrawn wc d') os).cell? ⟨g, 3, none⟩ = some (.int .i64 (v1 + 1)) := fun d' os => cell_regrown y3 d' os
            have kz0 : ∀ d' os, (grow (redrawn wc d') os).cell? ⟨w.heap.size, 0, none⟩ = some (.int .i64 3) := fun d' os => cell_regrown z0 d' os
            have kz1 : ∀ d' os, (grow (redrawn wc d') os).cell? ⟨w.heap.size, 1, none⟩ = some (.bool false) := fun d' os => cell_regrown z1 d' os
            have kz2 : ∀ d' os, (grow (redrawn wc d') os).cell? ⟨w.heap.size, 2, none⟩ = some (.int .i64 x1') := fun d' os => cell_regrown z2 d' os
            have kz3 : ∀ d' os, (grow (redrawn wc d') os).cell? ⟨w.heap.size, 3, none⟩ = some (.int .i64 v1) := fun d' os => cell_regrown z3 d' os
            have c0 : ∀ d' os, Calls Tryd.prog 15 #[.agg #[.int .i64 3, .bool false, .int .i64 (x1' + ea), .int .i64 (v1 + 1)]] (grow (redrawn wc d') os) fun e w'' => e = .returned (.bool true) ∧ ∃ p : Regrown, w'' = grow (redrawn wc p.d) p.os := fun d' os => Calls.regrown_of (hm2 _)
            clear hm2 y0 y1 y2 y3 z0 z1 z2 z3
            go_wp2_with fail
            refine wp_region_quiet_below (by kernel_rfl) (by kernel_rfl) ?_
            repeat (go_big_quiet_step (with_reducible exact c0 _ _))
            refine wpQuiet_nil ?_
            intro _ hw'
            obtain ⟨⟨dq, osq⟩, hw''⟩ := hw'
            subst hw''
            have hbq := below_regrown wc dq osq
            generalize grow (redrawn wc dq) osq = w8 at *
            clear ky0 ky1 ky2 ky3 kz0 kz1 kz2 kz3 c0
            have hs8 : wc.heap.size ≤ w8.heap.size := hbq.size
            have HT8 : StAt w8 g ⟨3, false, (x1' + ea), (v1 + 1)⟩ := (hbq.block _ hg6).trans HT6.out
            have HS8 : StAt w8 w.heap.size ⟨3, false, x1', v1⟩ := (hbq.block _ hws).trans HS6.out
            have HB8 := HB6.out.trans (hbq.mono HB6.out.size)
            clear hbq
            obtain ⟨y0, y1, y2, y3, -⟩ := HT8.cells
            obtain ⟨z0, z1, z2, z3, zf⟩ := HS8.cells
            go_wp2_with fail
            go_roundw
            case rel => exact ⟨k + 1, ⟨3, false, (x1' + ea), (v1 + 1)⟩, by omega, by go_num, HT, Lib.hid (set_four (n := w.heap.size) HS8 (Nat.le_refl _) rfl).1, Lib.hid (HB8.trans (set_four (n := w.heap.size) HS8 (Nat.le_refl _) rfl).2.1), by rw [(set_four (n := w.heap.size) HS8 (Nat.le_refl _) rfl).2.2.1]; omega⟩
            case measure => simp [intOf]; omega
          have u3 : (t2 == 3) = false := by simp [h3]
          have tw : IntKind.i64.wrap (v1 + 1) = v1 + 1 := IntWalk.i64_in _ (by omega)
          have tv : decide (v1 + 1 < v1) = false := decide_eq_false (by omega)
          have tu : decide (v1 + 1 < v1 + 1) = false := decide_eq_false (by omega)
          have te : (v1 + 1 == v1) = false := by simp; omega
          have ts : (x1' + ea == x1') = false := by simp; omega
          have tl : decide (x1' + ea < x1') = false := decide_eq_false (by omega)
          clear hr
          obtain ⟨y0, y1, y2, y3, -⟩ := HT6.out.cells
          obtain ⟨z0, z1, z2, z3, -⟩ := HS6.out.cells
          have ky0 : ∀ d' os, (grow (redrawn wc d') os).cell? ⟨g, 0, none⟩ = some (.int .i64 t2) := fun d' os => cell_regrown y0 d' os
          have ky1 : ∀ d' os, (grow (redrawn wc d') os).cell? ⟨g, 1, none⟩ = some (.bool false) := fun d' os => cell_regrown y1 d' os
          have ky2 : ∀ d' os, (grow (redrawn wc d') os).cell? ⟨g, 2, none⟩ = some (.int .i64 (x1' + ea)) := fun d' os => cell_regrown y2 d' os
          have ky3 : ∀ d' os, (grow (redrawn wc d') os).cell? ⟨g, 3, none⟩ = some (.int .i64 (v1 + 1)) := fun d' os => cell_regrown y3 d' os
          have kz0 : ∀ d' os, (grow (redrawn wc d') os).cell? ⟨w.heap.size, 0, none⟩ = some (.int .i64 t2) := fun d' os => cell_regrown z0 d' os
          have kz1 : ∀ d' os, (grow (redrawn wc d') os).cell? ⟨w.heap.size, 1, none⟩ = some (.bool false) := fun d' os => cell_regrown z1 d' os
          have kz2 : ∀ d' os, (grow (redrawn wc d') os).cell? ⟨w.heap.size, 2, none⟩ = some (.int .i64 x1') := fun d' os => cell_regrown z2 d' os
          have kz3 : ∀ d' os, (grow (redrawn wc d') os).cell? ⟨w.heap.size, 3, none⟩ = some (.int .i64 v1) := fun d' os => cell_regrown z3 d' os
          have c0 : ∀ d' os, Calls Tryd.prog 15 #[.agg #[.int .i64 t2, .bool false, .int .i64 (x1' + ea), .int .i64 (v1 + 1)]] (grow (redrawn wc d') os) fun e w'' => e = .returned (.bool true) ∧ ∃ p : Regrown, w'' = grow (redrawn wc p.d) p.os := fun d' os => Calls.regrown_of (hm2 _)
          clear hm2 y0 y1 y2 y3 z0 z1 z2 z3
          go_wp2_with fail
          refine wp_region_quiet_below (by kernel_rfl) (by kernel_rfl) ?_
          repeat (go_big_quiet_step (with_reducible exact c0 _ _))
          refine wpQuiet_nil ?_
          intro _ hw'
          obtain ⟨⟨dq, osq⟩, hw''⟩ := hw'
          subst hw''
          have hbq := below_regrown wc dq osq
          generalize grow (redrawn wc dq) osq = w8 at *
          clear ky0 ky1 ky2 ky3 kz0 kz1 kz2 kz3 c0
          have hs8 : wc.heap.size ≤ w8.heap.size := hbq.size
          have HT8 : StAt w8 g ⟨t2, false, (x1' + ea), (v1 + 1)⟩ := (hbq.block _ hg6).trans HT6.out
          have HS8 : StAt w8 w.heap.size ⟨t2, false, x1', v1⟩ := (hbq.block _ hws).trans HS6.out
          have HB8 := HB6.out.trans (hbq.mono HB6.out.size)
          clear hbq
          obtain ⟨y0, y1, y2, y3, -⟩ := HT8.cells
          obtain ⟨z0, z1, z2, z3, zf⟩ := HS8.cells
          go_wp2_with fail
          go_roundw
          case rel => exact ⟨k + 1, ⟨t2, false, (x1' + ea), (v1 + 1)⟩, by omega, by go_num, HT, Lib.hid (set_four (n := w.heap.size) HS8 (Nat.le_refl _) rfl).1, Lib.hid (HB8.trans (set_four (n := w.heap.size) HS8 (Nat.le_refl _) rfl).2.1), by rw [(set_four (n := w.heap.size) HS8 (Nat.le_refl _) rfl).2.2.1]; omega⟩
          case measure => simp [intOf]; omega
        · simp [next] at e
          obtain ⟨rfl, rfl, rfl, rfl⟩ := e
          rcases hc2 with ⟨rfl, hc2⟩ | ⟨rfl, hc2⟩
          · have tw : IntKind.i64.wrap (v1 + 1) = v1 + 1 := IntWalk.i64_in _ (by omega)
            have tv : decide (v1 + 1 < v1) = false := decide_eq_false (by omega)
            have tu : decide (v1 + 1 < v1 + 1) = false := decide_eq_false (by omega)
            have te : (v1 + 1 == v1) = false := by simp; omega
            have ts : (x1' - ea == x1') = false := by simp; omega
            clear hr
            obtain ⟨y0, y1, y2, y3, -⟩ := HT6.out.cells
            obtain ⟨z0, z1, z2, z3, -⟩ := HS6.out.cells
            have ky0 : ∀ d' os, (grow (redrawn wc d') os).cell? ⟨g, 0, none⟩ = some (.int .i64 1) := fun d' os => cell_regrown y0 d' os
            have ky1 : ∀ d' os, (grow (redrawn wc d') os).cell? ⟨g, 1, none⟩ = some (.bool false) := fun d' os => cell_regrown y1 d' os
            have ky2 : ∀ d' os, (grow (redrawn wc d') os).cell? ⟨g, 2, none⟩ = some (.int .i64 (x1' - ea)) := fun d' os => cell_regrown y2 d' os
            have ky3 : ∀ d' os, (grow (redrawn wc d') os).cell? ⟨g, 3, none⟩ = some (.int .i64 (v1 + 1)) := fun d' os => cell_regrown y3 d' os
            have kz0 : ∀ d' os, (grow (redrawn wc d') os).cell? ⟨w.heap.size, 0, none⟩ = some (.int .i64 1) := fun d' os => cell_regrown z0 d' os
            have kz1 : ∀ d' os, (grow (redrawn wc d') os).cell? ⟨w.heap.size, 1, none⟩ = some (.bool false) := fun d' os => cell_regrown z1 d' os
            have kz2 : ∀ d' os, (grow (redrawn wc d') os).cell? ⟨w.heap.size, 2, none⟩ = some (.int .i64 x1') := fun d' os => cell_regrown z2 d' os
            have kz3 : ∀ d' os, (grow (redrawn wc d') os).cell? ⟨w.heap.size, 3, none⟩ = some (.int .i64 v1) := fun d' os => cell_regrown z3 d' os
            have c0 : ∀ d' os, Calls Tryd.prog 15 #[.agg #[.int .i64 1, .bool false, .int .i64 (x1' - ea), .int .i64 (v1 + 1)]] (grow (redrawn wc d') os) fun e w'' => e = .returned (.bool true) ∧ ∃ p : Regrown, w'' = grow (redrawn wc p.d) p.os := fun d' os => Calls.regrown_of (hm2 _)
            clear hm2 y0 y1 y2 y3 z0 z1 z2 z3
            go_wp2_with fail
            refine wp_region_quiet_below (by kernel_rfl) (by kernel_rfl) ?_
            repeat (go_big_quiet_step (with_reducible exact c0 _ _))
            refine wpQuiet_nil ?_
            intro _ hw'
            obtain ⟨⟨dq, osq⟩, hw''⟩ := hw'
            subst hw''
            have hbq := below_regrown wc dq osq
            generalize grow (redrawn wc dq) osq = w8 at *
            clear ky0 ky1 ky2 ky3 kz0 kz1 kz2 kz3 c0
            have hs8 : wc.heap.size ≤ w8.heap.size := hbq.size
            have HT8 : StAt w8 g ⟨1, false, (x1' - ea), (v1 + 1)⟩ := (hbq.block _ hg6).trans HT6.out
            have HS8 : StAt w8 w.heap.size ⟨1, false, x1', v1⟩ := (hbq.block _ hws).trans HS6.out
            have HB8 := HB6.out.trans (hbq.mono HB6.out.size)
            clear hbq
            obtain ⟨y0, y1, y2, y3, -⟩ := HT8.cells
            obtain ⟨z0, z1, z2, z3, zf⟩ := HS8.cells
            go_wp2_with fail
            go_roundw
            case rel => exact ⟨k + 1, ⟨1, false, (x1' - ea), (v1 + 1)⟩, by omega, by go_num, HT, Lib.hid (set_four (n := w.heap.size) HS8 (Nat.le_refl _) rfl).1, Lib.hid (HB8.trans (set_four (n := w.heap.size) HS8 (Nat.le_refl _) rfl).2.1), by rw [(set_four (n := w.heap.size) HS8 (Nat.le_refl _) rfl).2.2.1]; omega⟩
            case measure => simp [intOf]; omega
          · have tw : IntKind.i64.wrap (v1 + 1) = v1 + 1 := IntWalk.i64_in _ (by omega)
            have tv : decide (v1 + 1 < v1) = false := decide_eq_false (by omega)
            have tu : decide (v1 + 1 < v1 + 1) = false := decide_eq_false (by omega)
            have te : (v1 + 1 == v1) = false := by simp; omega
            have ts : (x1' - ea == x1') = false := by simp; omega
            clear hr
            obtain ⟨y0, y1, y2, y3, -⟩ := HT6.out.cells
            obtain ⟨z0, z1, z2, z3, -⟩ := HS6.out.cells
            have ky0 : ∀ d' os, (grow (redrawn wc d') os).cell? ⟨g, 0, none⟩ = some (.int .i64 2) := fun d' os => cell_regrown y0 d' os
            have ky1 : ∀ d' os, (grow (redrawn wc d') os).cell? ⟨g, 1, none⟩ = some (.bool false) := fun d' os => cell_regrown y1 d' os
            have ky2 : ∀ d' os, (grow (redrawn wc d') os).cell? ⟨g, 2, none⟩ = some (.int .i64 (x1' - ea)) := fun d' os => cell_regrown y2 d' os
            have ky3 : ∀ d' os, (grow (redrawn wc d') os).cell? ⟨g, 3, none⟩ = some (.int .i64 (v1 + 1)) := fun d' os => cell_regrown y3 d' os
            have kz0 : ∀ d' os, (grow (redrawn wc d') os).cell? ⟨w.heap.size, 0, none⟩ = some (.int .i64 2) := fun d' os => cell_regrown z0 d' os
            have kz1 : ∀ d' os, (grow (redrawn wc d') os).cell? ⟨w.heap.size, 1, none⟩ = some (.bool false) := fun d' os => cell_regrown z1 d' os
            have kz2 : ∀ d' os, (grow (redrawn wc d') os).cell? ⟨w.heap.size, 2, none⟩ = some (.int .i64 x1') := fun d' os => cell_regrown z2 d' os
            have kz3 : ∀ d' os, (grow (redrawn wc d') os).cell? ⟨w.heap.size, 3, none⟩ = some (.int .i64 v1) := fun d' os => cell_regrown z3 d' os
            have c0 : ∀ d' os, Calls Tryd.prog 15 #[.agg #[.int .i64 2, .bool false, .int .i64 (x1' - ea), .int .i64 (v1 + 1)]] (grow (redrawn wc d') os) fun e w'' => e = .returned (.bool true) ∧ ∃ p : Regrown, w'' = grow (redrawn wc p.d) p.os := fun d' os => Calls.regrown_of (hm2 _)
            clear hm2 y0 y1 y2 y3 z0 z1 z2 z3
            go_wp2_with fail
            refine wp_region_quiet_below (by kernel_rfl) (by kernel_rfl) ?_
            repeat (go_big_quiet_step (with_reducible exact c0 _ _))
            refine wpQuiet_nil ?_
            intro _ hw'
            obtain ⟨⟨dq, osq⟩, hw''⟩ := hw'
            subst hw''
            have hbq := below_regrown wc dq osq
            generalize grow (redrawn wc dq) osq = w8 at *
            clear ky0 ky1 ky2 ky3 kz0 kz1 kz2 kz3 c0
            have hs8 : wc.heap.size ≤ w8.heap.size := hbq.size
            have HT8 : StAt w8 g ⟨2, false, (x1' - ea), (v1 + 1)⟩ := (hbq.block _ hg6).trans HT6.out
            have HS8 : StAt w8 w.heap.size ⟨2, false, x1', v1⟩ := (hbq.block _ hws).trans HS6.out
            have HB8 := HB6.out.trans (hbq.mono HB6.out.size)
            clear hbq
            obtain ⟨y0, y1, y2, y3, -⟩ := HT8.cells
            obtain ⟨z0, z1, z2, z3, zf⟩ := HS8.cells
            go_wp2_with fail
            go_roundw
            case rel => exact ⟨k + 1, ⟨2, false, (x1' - ea), (v1 + 1)⟩, by omega, by go_num, HT, Lib.hid (set_four (n := w.heap.size) HS8 (Nat.le_refl _) rfl).1, Lib.hid (HB8.trans (set_four (n := w.heap.size) HS8 (Nat.le_refl _) rfl).2.1), by rw [(set_four (n := w.heap.size) HS8 (Nat.le_refl _) rfl).2.2.1]; omega⟩
            case measure => simp [intOf]; omega
        · simp [next] at e
          obtain ⟨rfl, rfl, rfl, rfl⟩ := e
          subst hc2
          have u0 : (t2 == 0) = false := by simp [hc1]
          by_cases h3 : t2 = 3
          · subst h3
            have tw : IntKind.i64.wrap (v1 + 1) = v1 + 1 := IntWalk.i64_in _ (by omega)
            have tv : decide (v1 + 1 < v1) = false := decide_eq_false (by omega)
            have tu : decide (v1 + 1 < v1 + 1) = false := decide_eq_false (by omega)
            have te : (v1 + 1 == v1) = false := by simp; omega
            clear hr
            obtain ⟨y0, y1, y2, y3, -⟩ := HT6.out.cells
            obtain ⟨z0, z1, z2, z3, -⟩ := HS6.out.cells
            have ky0 : ∀ d' os, (grow (redrawn wc d') os).cell? ⟨g, 0, none⟩ = some (.int .i64 3) := fun d' os => cell_regrown y0 d' os
            have ky1 : ∀ d' os, (grow (redrawn wc d') os).cell? ⟨g, 1, none⟩ = some (.bool true) := fun d' os => cell_regrown y1 d' os
            have ky2 : ∀ d' os, (grow (redrawn wc d') os).cell? ⟨g, 2, none⟩ = some (.int .i64 0) := fun d' os => cell_regrown y2 d' os
            have ky3 : ∀ d' os, (grow (redrawn wc d') os).cell? ⟨g, 3, none⟩ = some (.int .i64 (v1 + 1)) := fun d' os => cell_regrown y3 d' os
            have kz0 : ∀ d' os, (grow (redrawn wc d') os).cell? ⟨w.heap.size, 0, none⟩ = some (.int .i64 3) := fun d' os => cell_regrown z0 d' os
            have kz1 : ∀ d' os, (grow (redrawn wc d') os).cell? ⟨w.heap.size, 1, none⟩ = some (.bool false) := fun d' os => cell_regrown z1 d' os
            have kz2 : ∀ d' os, (grow (redrawn wc d') os).cell? ⟨w.heap.size, 2, none⟩ = some (.int .i64 0) := fun d' os => cell_regrown z2 d' os
            have kz3 : ∀ d' os, (grow (redrawn wc d') os).cell? ⟨w.heap.size, 3, none⟩ = some (.int .i64 v1) := fun d' os => cell_regrown z3 d' os
            have c0 : ∀ d' os, Calls Tryd.prog 15 #[.agg #[.int .i64 3, .bool true, .int .i64 0, .int .i64 (v1 + 1)]] (grow (redrawn wc d') os) fun e w'' => e = .returned (.bool true) ∧ ∃ p : Regrown, w'' = grow (redrawn wc p.d) p.os := fun d' os => Calls.regrown_of (hm2 _)
            clear hm2 y0 y1 y2 y3 z0 z1 z2 z3
            go_wp2_with fail
            refine wp_region_quiet_below (by kernel_rfl) (by kernel_rfl) ?_
            repeat (go_big_quiet_step (with_reducible exact c0 _ _))
            refine wpQuiet_nil ?_
            intro _ hw'
            obtain ⟨⟨dq, osq⟩, hw''⟩ := hw'
            subst hw''
            have hbq := below_regrown wc dq osq
            generalize grow (redrawn wc dq) osq = w8 at *
            clear ky0 ky1 ky2 ky3 kz0 kz1 kz2 kz3 c0
            have hs8 : wc.heap.size ≤ w8.heap.size := hbq.size
            have HT8 : StAt w8 g ⟨3, true, 0, (v1 + 1)⟩ := (hbq.block _ hg6).trans HT6.out
            have HS8 : StAt w8 w.heap.size ⟨3, false, 0, v1⟩ := (hbq.block _ hws).trans HS6.out
            have HB8 := HB6.out.trans (hbq.mono HB6.out.size)
            clear hbq
            obtain ⟨y0, y1, y2, y3, -⟩ := HT8.cells
            obtain ⟨z0, z1, z2, z3, zf⟩ := HS8.cells
            go_wp2_with fail
            go_roundw
            case rel => exact ⟨k + 1, ⟨3, true, 0, (v1 + 1)⟩, by omega, by go_num, HT, Lib.hid (set_four (n := w.heap.size) HS8 (Nat.le_refl _) rfl).1, Lib.hid (HB8.trans (set_four (n := w.heap.size) HS8 (Nat.le_refl _) rfl).2.1), by rw [(set_four (n := w.heap.size) HS8 (Nat.le_refl _) rfl).2.2.1]; omega⟩
            case measure => simp [intOf]; omega
          have u3 : (t2 == 3) = false := by simp [h3]
          have tw : IntKind.i64.wrap (v1 + 1) = v1 + 1 := IntWalk.i64_in _ (by omega)
          have tv : decide (v1 + 1 < v1) = false := decide_eq_false (by omega)
          have tu : decide (v1 + 1 < v1 + 1) = false := decide_eq_false (by omega)
          have te : (v1 + 1 == v1) = false := by simp; omega
          clear hr
          obtain ⟨y0, y1, y2, y3, -⟩ := HT6.out.cells
          obtain ⟨z0, z1, z2, z3, -⟩ := HS6.out.cells
          have ky0 : ∀ d' os, (grow (redrawn wc d') os).cell? ⟨g, 0, none⟩ = some (.int .i64 t2) := fun d' os => cell_regrown y0 d' os
          have ky1 : ∀ d' os, (grow (redrawn wc d') os).cell? ⟨g, 1, none⟩ = some (.bool true) := fun d' os => cell_regrown y1 d' os
          have ky2 : ∀ d' os, (grow (redrawn wc d') os).cell? ⟨g, 2, none⟩ = some (.int .i64 0) := fun d' os => cell_regrown y2 d' os
          have ky3 : ∀ d' os, (grow (redrawn wc d') os).cell? ⟨g, 3, none⟩ = some (.int .i64 (v1 + 1)) := fun d' os => cell_regrown y3 d' os
          have kz0 : ∀ d' os, (grow (redrawn wc d') os).cell? ⟨w.heap.size, 0, none⟩ = some (.int .i64 t2) := fun d' os => cell_regrown z0 d' os
          have kz1 : ∀ d' os, (grow (redrawn wc d') os).cell? ⟨w.heap.size, 1, none⟩ = some (.bool false) := fun d' os => cell_regrown z1 d' os
          have kz2 : ∀ d' os, (grow (redrawn wc d') os).cell? ⟨w.heap.size, 2, none⟩ = some (.int .i64 0) := fun d' os => cell_regrown z2 d' os
          have kz3 : ∀ d' os, (grow (redrawn wc d') os).cell? ⟨w.heap.size, 3, none⟩ = some (.int .i64 v1) := fun d' os => cell_regrown z3 d' os
          have c0 : ∀ d' os, Calls Tryd.prog 15 #[.agg #[.int .i64 t2, .bool true, .int .i64 0, .int .i64 (v1 + 1)]] (grow (redrawn wc d') os) fun e w'' => e = .returned (.bool true) ∧ ∃ p : Regrown, w'' = grow (redrawn wc p.d) p.os := fun d' os => Calls.regrown_of (hm2 _)
          clear hm2 y0 y1 y2 y3 z0 z1 z2 z3
          go_wp2_with fail
          refine wp_region_quiet_below (by kernel_rfl) (by kernel_rfl) ?_
          repeat (go_big_quiet_step (with_reducible exact c0 _ _))
          refine wpQuiet_nil ?_
          intro _ hw'
          obtain ⟨⟨dq, osq⟩, hw''⟩ := hw'
          subst hw''
          have hbq := below_regrown wc dq osq
          generalize grow (redrawn wc dq) osq = w8 at *
          clear ky0 ky1 ky2 ky3 kz0 kz1 kz2 kz3 c0
          have hs8 : wc.heap.size ≤ w8.heap.size := hbq.size
          have HT8 : StAt w8 g ⟨t2, true, 0, (v1 + 1)⟩ := (hbq.block _ hg6).trans HT6.out
          have HS8 : StAt w8 w.heap.size ⟨t2, false, 0, v1⟩ := (hbq.block _ hws).trans HS6.out
          have HB8 := HB6.out.trans (hbq.mono HB6.out.size)
          clear hbq
          obtain ⟨y0, y1, y2, y3, -⟩ := HT8.cells
          obtain ⟨z0, z1, z2, z3, zf⟩ := HS8.cells
          go_wp2_with fail
          go_roundw
          case rel => exact ⟨k + 1, ⟨t2, true, 0, (v1 + 1)⟩, by omega, by go_num, HT, Lib.hid (set_four (n := w.heap.size) HS8 (Nat.le_refl _) rfl).1, Lib.hid (HB8.trans (set_four (n := w.heap.size) HS8 (Nat.le_refl _) rfl).2.1), by rw [(set_four (n := w.heap.size) HS8 (Nat.le_refl _) rfl).2.2.1]; omega⟩
          case measure => simp [intOf]; omega
    · clear hk
      go_wp2_with fail
      refine (HW.out _ HB.out).mono ?_
      rintro e w9 ⟨rfl, hb⟩
      go_wp2_with fail
      go_ret
      exact ⟨rfl, HB.out.trans (hb.mono HB.out.size)⟩
theorem walk (s : St) (A : Option Addr) (cp : Nat) (l : List Ev) (w : World) (hA : Asked w) (_ : s.ints) (hV : VsB w.heap.size w (.slice A l.length cp) l) (_ : ∀ e ∈ l, Ev.ints e) :
    Calls Tryd.prog 6 #[s.v, .slice A l.length cp] w (fun e w' => e = .returned (.bool true) ∧ Below w.heap.size w w') := by
  have hM := fun X => lm_any s X
  have HAK := Lib.hid (fun X (hb : Below w.heap.size w X) => hA.keep hb)
  by_cases hl : (1000 : Int) < (l.length : Int)
  · exact long s.tag s.cl s.sum s.ver A cp l w HAK (decide_eq_true hl)
  · cases hm : s.may
    · rw [hm] at hM
      exact bad s.tag s.cl s.sum s.ver A cp l w HAK (decide_eq_false hl) (Lib.hid hM)
    · rw [hm] at hM
      exact main s.tag s.cl s.sum s.ver A cp l w HAK (decide_eq_false hl) hm (Lib.hid hM) (Lib.hid hV)
end Go.Proofs.YtpboleiifmepeaaDoor.deedsStayW
