/-
  Of of package folds.
-/
import Derived.Test.YtafhjlfnhgkcoaaDoorFoRow
import Derived.Test.YtafhjlfnhgkcoaaDoorFoFind
import Derived.Deep.DeepCutAuto
import Derived.Deep.RegionHeld3
namespace Go.Proofs.YtafhjlfnhgkcoaaDoor
open Go.RowKit Go.Sort Go.Maps
/-- How memory stands after k entries: the answer's state, the state so far, the row, the map. -/
structure OfI (w : World) (es : List En) (k : Nat) (wr : World) : Prop where
  bel : Below w.heap.size w wr
  size : w.heap.size + 4 ≤ wr.heap.size
  res : wr.heap[w.heap.size]? = some (.cells #[.int .i64 0, .bool false, .int .i64 0, .int .i64 0] 25 (0, 0))
  st : wr.heap[w.heap.size + 1]? = some (.cells #[.int .i64 (upTo es k).1.tag, .bool (upTo es k).1.cl, .int .i64 (upTo es k).1.sum, .int .i64 (upTo es k).1.ver] 25 (0, 0))
  row : ∃ cur, wr.heap[w.heap.size + 1 + 1]? = some (.cells cur 33 (0, 0)) ∧ cur.size = es.length * 3
  ocs : ∀ j, j < k → OcAt (w.heap.size + 4) wr.heap.size wr (w.heap.size + 1 + 1) 0 j ((upTo es k).2.getD j oc0)
  map : ∃ D, wr.ownsMap Tryd.prog 54 (plainElem Tryd.prog 3) (w.heap.size + 1 + 1 + 1) k D ∧ Knows D (es.take k)
theorem ofI_start {w W : World} {es : List En} (h : W = (((w.alloc (.cells #[.int .i64 0, .bool false, .int .i64 0, .int .i64 0] 25)).alloc (.cells #[.int .i64 0, .bool false, .int .i64 0, .int .i64 0] 25)).alloc (.cells (ozs es.length) 33)).alloc (.map #[] 0)) : OfI w es 0 W := by
  subst h
  refine ⟨((((Below.refl _ _).alloc (Nat.le_refl _) _).alloc (by simp) _).alloc (by simp; omega) _).alloc (by simp; omega) _, by simp, ?_, ?_, ⟨ozs es.length, ?_, ozs_size _⟩, fun j hj => by omega, .map [], ?_, knows_nil⟩
  · refine Eq.trans (Below.block (B := w.heap.size + 1) (w := w.alloc (.cells #[.int .i64 0, .bool false, .int .i64 0, .int .i64 0] 25)) ?_ w.heap.size (by omega)) (heap_alloc_new _ _)
    exact (((Below.refl _ _).alloc (by simp) _).alloc (by simp) _).alloc (by simp) _
  · show ((((w.heap.push _).push _).push _).push _)[_]? = _
    simp [Array.getElem_push, upTo, St.zero]
  · show ((((w.heap.push _).push _).push _).push _)[_]? = _
    simp [Array.getElem_push]
  · generalize hq : ((w.alloc (.cells #[.int .i64 0, .bool false, .int .i64 0, .int .i64 0] 25)).alloc (.cells #[.int .i64 0, .bool false, .int .i64 0, .int .i64 0] 25)).alloc (.cells (ozs es.length) 33) = q
    have hz : q.heap.size = w.heap.size + 1 + 1 + 1 := by rw [← hq]; simp
    rw [← hz]
    exact World.ownsMap_made q _ _ _
/-- What a call leaves. -/
def OfPost (r : St × List Oc) (w : World) (e : Ending) (w' : World) : Prop :=
  ∃ g, e = .returned (.tuple #[r.1.v, .slice (some ⟨g, 0, none⟩) r.2.length r.2.length]) ∧ w.heap.size ≤ g ∧ g < w'.heap.size ∧ (∃ cur, w'.heap[g]? = some (.cells cur 33 (0, 0)) ∧ cur.size = r.2.length * 3) ∧
    (∀ j, (hj : j < r.2.length) → OcAt (g + 1) w'.heap.size w' g 0 j r.2[j]) ∧ Below w.heap.size w w'
theorem OcAt.mono {lo hi lo' hi' : Nat} {w : World} {g o k : Nat} {x : Oc} (h : OcAt lo hi w g o k x) (h1 : lo' ≤ lo) (h2 : hi ≤ hi') : OcAt lo' hi' w g o k x := h.keep rfl (fun _ _ _ => rfl) h1 h2
theorem OfPost.ocs {w w' : World} {g : Nat} {os : List Oc} (hl : os.length ≤ 100000) (hg : w.heap.size ≤ g) (hg2 : g < w'.heap.size) (h : ∀ j, (hj : j < os.length) → OcAt (g + 1) w'.heap.size w' g 0 j os[j]) : OcsB w.heap.size w'.heap.size w' (.slice (some ⟨g, 0, none⟩) os.length os.length) os :=
  ⟨_, _, rfl, Nat.le_refl _, by unfold maxLen; omega, (fun e => by cases e), fun _ => ⟨g, rfl, hg, hg2, fun k hk => (h k hk).mono (by omega) (Nat.le_refl _)⟩⟩
/-- Behind one entry more. -/
theorem ofI_next {w wr w5 : World} {es : List En} {k : Nat} {V : Value} {x : Oc} {s' : St} (hk : k < es.length) (h : OfI w es k wr) (hu : upTo es (k + 1) = (s', (upTo es k).2 ++ [x])) (hbel : Below w.heap.size wr w5) (hsz : wr.heap.size ≤ w5.heap.size)
    (hfr : ∀ q, q < wr.heap.size → q ≠ w.heap.size + 1 → q ≠ w.heap.size + 1 + 1 → q ≠ w.heap.size + 1 + 1 + 1 → w5.heap[q]? = wr.heap[q]?)
    (hst : w5.heap[w.heap.size + 1]? = some (.cells #[.int .i64 s'.tag, .bool s'.cl, .int .i64 s'.sum, .int .i64 s'.ver] 25 (0, 0)))
    (hrow : ∃ cur', w5.heap[w.heap.size + 1 + 1]? = some (.cells cur' 33 (0, 0)) ∧ cur'.size = es.length * 3)
    (h0 : w5.cell? ⟨w.heap.size + 1 + 1, k * 3, none⟩ = some (.int .i64 x.code)) (h1 : w5.cell? ⟨w.heap.size + 1 + 1, k * 3 + 1, none⟩ = some (.int .i64 x.ver)) (h2 : w5.cell? ⟨w.heap.size + 1 + 1, k * 3 + 2, none⟩ = some V)
    (hV : EvH (w.heap.size + 4) w5.heap.size w5 V x.evs)
    (hcell : ∀ j, j ≠ k → j < es.length → ∀ d, d < 3 → w5.cell? ⟨w.heap.size + 1 + 1, j * 3 + d, none⟩ = wr.cell? ⟨w.heap.size + 1 + 1, j * 3 + d, none⟩)
    (hmap : ∃ D, w5.ownsMap Tryd.prog 54 (plainElem Tryd.prog 3) (w.heap.size + 1 + 1 + 1) (k + 1) D ∧ Knows D (es.take (k + 1))) : OfI w es (k + 1) w5 := by
  have hs := h.size
  have hl := upTo_len (l := es) (i := k) (by omega)
  refine ⟨h.bel.trans hbel, by omega, ?_, ?_, hrow, fun i hi => ?_, hmap⟩
  · rw [hfr _ (by omega) (by omega) (by omega) (by omega)]; exact h.res
  · rw [hu]; exact hst
  · rw [hu]
    by_cases e : i = k
    · subst e
      rw [List.getD_eq_getElem?_getD, List.getElem?_append_right (by omega), hl, Nat.sub_self]
      exact ⟨V, by rw [Nat.zero_add]; exact h0, by rw [Nat.zero_add]; exact h1, by rw [Nat.zero_add]; exact h2, hV⟩
    · rw [List.getD_eq_getElem?_getD, List.getElem?_append_left (by omega), ← List.getD_eq_getElem?_getD]
      obtain ⟨V', a, b, c, d⟩ := h.ocs i (by omega)
      rw [Nat.zero_add] at a b c
      refine ⟨V', ?_, ?_, ?_, d.keep (fun q hq hq' => ?_) (Nat.le_refl _) (by omega)⟩
      · rw [Nat.zero_add]; exact (hcell i e (by omega) 0 (by omega)).trans a
      · rw [Nat.zero_add]; exact (hcell i e (by omega) 1 (by omega)).trans b
      · rw [Nat.zero_add]; exact (hcell i e (by omega) 2 (by omega)).trans c
      · exact hfr q (by omega) (by omega) (by omega) (by omega)
theorem cell_heap {w w' : World} {b j : Nat} (h : w'.heap[b]? = w.heap[b]?) : w'.cell? ⟨b, j, none⟩ = w.cell? ⟨b, j, none⟩ := by simp [World.cell?, h]
theorem below_grown {w w' : World} {n : Nat} (hb : Below n w w') (hn : w.heap.size ≤ n) : w.grownBy w' none := ⟨hb.os, hb.tape, hb.output, hb.size, fun q hq _ => hb.block q (by omega)⟩
theorem oc_grown {w w' : World} {g : Nat} (hb : Below 0 w w') (ho : ∀ k, k ≠ g → w'.heap[k]? = w.heap[k]?) : w.grownBy w' (some g) := ⟨hb.os, hb.tape, hb.output, hb.size, fun q _ hne => ho q (fun e => hne (by rw [e]))⟩
set_option maxRecDepth 100000 in
set_option maxHeartbeats 8000000 in
theorem of_any {v : Value} {B : Nat} {es : List En} {w : World} (ha : EsB B w v es) (hint : ∀ e ∈ es, IntsOk e.l) (hB : B ≤ w.heap.size) (hA : Asked w) (hn : es.length ≤ 100000) : Calls Tryd.prog 11 #[v] w (OfPost (foldL es) w) := by
  have HCA := Lib.hid (fun X (hX : Below w.heap.size w X) k (hk : k < es.length) => EsB.cells (RdB.below ha hX hB) hk)
  have HAK := Lib.hid (fun X (hX : Below w.heap.size w X) => hA.keep hX)
  have HID : Hid (∀ k, (hk : k < es.length) → -9223372036854775808 ≤ es[k].o.id ∧ es[k].o.id ≤ 9223372036854775807) := Lib.hid (fun k hk => hint _ (List.getElem_mem hk) _ (by simp [En.l, Od.l]))
  obtain ⟨A, ca, rfl, h1, h2, -⟩ := ha.len
  have hl : es.length ≤ maxLen := by omega
  unfold maxLen at hl
  clear ha h2 hA hint
  have hmk := fun X => ocmade_run X es.length hn
  have hmm := fun X => map_run X (es.length : Int)
  go_enter Tryd.func11, Tryd.ntmps11
  go_wp2
  go_loopw [21] (fun i wr => ∃ k : Nat, k ≤ es.length ∧ i = .int .i64 k ∧ OfI w es k wr) (fun i _ => es.length - (intOf i).toNat)
  case atStart => exact ⟨0, Nat.zero_le _, rfl, ofI_start rfl⟩
  case round =>
    clear hmk hmm
    obtain ⟨k, hk, rfl, hI⟩ := hrel
    by_cases hlt : k < es.length
    · obtain ⟨b1, o1, c1, hv1, hb1, x0, x1, x2, x3, x4, x5⟩ := HCA.out wr hI.bel k hlt
      injection hv1 with e1 _ e3
      subst e1 e3
      have hii : (k : Int) < (es.length : Int) := by omega
      have hid := HID.out k hlt
      have HI := Lib.hid hI
      have hsI := hI.size
      obtain ⟨D, hD, hKn⟩ := hI.map
      cases hf : firstAt (es.take k) es[k].o.id with
      | some j =>
        have hu := Lib.hid (upTo_hit hlt hf)
        have hjk : j < k := by have := firstAt_lt hf; simp at this; omega
        have HKS := Lib.hid (hKn.same hlt hf)
        obtain ⟨V, a0, a1, a2, a3⟩ := hI.ocs j hjk
        rw [Nat.zero_add] at a0 a1 a2
        have HLK := fun X (hX : wr.grownBy X none) => look_hit (hD.kept hX (by simp)) hKn hid hf
        replace HLK := Lib.hid HLK
        obtain ⟨cur, hrow, hcur⟩ := hI.row
        have HD := Lib.hid hD
        have hst0 := Lib.hid hI.st
        clear hI hf hKn hD HCA HID HAK
        generalize es[k].ep = z0 at *
        generalize hzid : es[k].o.id = z1 at *
        generalize es[k].o.st = z2 at *
        generalize es[k].o.ex = z3 at *
        generalize es[k].o.ki = z4 at *
        generalize es[k].o.ar = z5 at *
        clear hzid
        obtain ⟨w1, HX1⟩ : ∃ W : World, Hid (W = (wr.alloc (.cells #[.int .i64 z0, .int .i64 z1, .int .i64 z2, .int .i64 z3, .int .i64 z4, .int .i64 z5] 45)).alloc (.cells #[.int .i64 z1] 54)) := ⟨_, Lib.hid rfl⟩
        obtain ⟨hz1, hbw1, h_e1, h_n1⟩ := two_blocks HX1.out
        have n0 : w1.cell? ⟨wr.heap.size + 1, 0, none⟩ = some (.int .i64 z1) := by rw [Lib.cell_of_heap h_n1]; rfl
        have a0' := (hbw1.cell (p := ⟨w.heap.size + 1 + 1, j * 3, none⟩) (show w.heap.size + 1 + 1 < wr.heap.size by omega)).trans a0
        have a1' := (hbw1.cell (p := ⟨w.heap.size + 1 + 1, j * 3 + 1, none⟩) (show w.heap.size + 1 + 1 < wr.heap.size by omega)).trans a1
        have a2' := (hbw1.cell (p := ⟨w.heap.size + 1 + 1, j * 3 + 2, none⟩) (show w.heap.size + 1 + 1 < wr.heap.size by omega)).trans a2
        have hrow1 := (hbw1.block (w.heap.size + 1 + 1) (by omega)).trans hrow
        have HL1 := Lib.hid (HLK.out w1 (below_grown hbw1 (Nat.le_refl _)))
        have hjj : (j : Int) < (es.length : Int) := by omega
        clear HLK h_e1 h_n1 a0 a1 a2 hrow
        have HAG := Lib.hid (again_any ((upTo es k).2.getD j oc0).code ((upTo es k).2.getD j oc0).ver a3)
        generalize hx : (upTo es k).2.getD j oc0 = x at *
        obtain ⟨xc, xv, xe⟩ := x
        dsimp only at a0' a1' a2' HAG
        go_wp2_with (first | (rw [← HX1.out]) | (at_lookup; refine wpList_lookup_known rfl _ _ _ _ rfl _ _ _ rfl rfl HL1.out ?_))
        refine (HAG.out _).mono ?_
        rintro e w2 ⟨rfl, hb⟩
        clear a0' a1' a2' n0
        have hrow2 := (hb.block (w.heap.size + 1 + 1) (by omega)).trans hrow1
        have hb2 : Below wr.heap.size wr w2 := hbw1.trans (hb.mono (by omega))
        clear hb hrow1
        obtain ⟨w3, HST, hrow3, k0, k1, k2, hcell, hbel, hsz, hoth⟩ := oc_store (i := k) xc xv (V := .slice none 0 0) rfl hrow2 hcur hlt
        replace HST := Lib.hid HST
        have hsz2 := hb2.size
        go_wp2_with (refine wpList_store_known rfl 33 _ _ rfl ⟨w.heap.size + 1 + 1, k * 3, none⟩ _ rfl rfl HST.out ?_)
        go_roundw
        case rel =>
          refine ⟨k + 1, by omega, by go_num, ofI_next hlt HI.out hu.out ((hb2.mono (by omega)).trans (hbel _ (by omega))) (by omega) (fun q hq _ h2 _ => (hoth q h2).trans (hb2.block q hq)) ?_ hrow3 k0 k1 k2 (.inl ⟨rfl, rfl⟩) (fun i hi hi' d hd => (hcell i hi hi' d hd).trans (hb2.cell (show w.heap.size + 1 + 1 < wr.heap.size by omega))) ⟨D, ?_, HKS.out⟩⟩
          · exact (hoth _ (by omega)).trans ((hb2.block _ (by omega)).trans hst0.out)
          · exact ((HD.out.kept (below_grown hb2 (Nat.le_refl _)) (by simp)).kept (oc_grown (hbel 0 (by omega)) hoth) (by simp)).mono (Nat.le_succ k)
        case measure => simp [intOf]; omega
      | none =>
        have hu := Lib.hid (upTo_miss hlt hf)
        have HKP := Lib.hid (hKn.put hD.isMap hlt hid hf)
        have HLK := Lib.hid (fun X (hX : wr.grownBy X none) => look_miss (hD.kept hX (by simp)) hKn hid hf)
        obtain ⟨cur, hrow, hcur⟩ := hI.row
        have HD := Lib.hid hD
        have hst0 := hI.st
        have HAK' := Lib.hid (fun X (hX : Below w.heap.size wr X) => HAK.out X (hI.bel.trans hX))
        have HDC := Lib.hid (fun X hX => decide_any (upTo es k).1 es[k].o X hX)
        have HBH := Lib.hid (fun lo hi (X : World) V (hX : EvH lo hi X V (decide_ (upTo es k).1 es[k].o).evs) => fbehind_any (upTo es k).1 hX)
        have hkey := Lib.hid (keyOf_name hid)
        have hbI := hI.bel
        clear hI hf hKn hD HCA HID HAK hid
        generalize hs' : apps (upTo es k).1 (decide_ (upTo es k).1 es[k].o).evs = s' at *
        generalize decide_ (upTo es k).1 es[k].o = r at *
        generalize (upTo es k).1 = s at *
        clear hs'
        generalize es[k].ep = z0 at *
        generalize es[k].o = od at *
        obtain ⟨z1, z2, z3, z4, z5⟩ := od
        obtain ⟨t, c, x, v⟩ := s
        obtain ⟨t', c', x', v'⟩ := s'
        obtain ⟨rc, rv, re⟩ := r
        dsimp only [St.v, Od.v] at *
        obtain ⟨w1, HX1⟩ : ∃ W : World, Hid (W = (wr.alloc (.cells #[.int .i64 z0, .int .i64 z1, .int .i64 z2, .int .i64 z3, .int .i64 z4, .int .i64 z5] 45)).alloc (.cells #[.int .i64 z1] 54)) := ⟨_, Lib.hid rfl⟩
        obtain ⟨hz1, hbw1, h_e1, h_n1⟩ := two_blocks HX1.out
        have n0 : w1.cell? ⟨wr.heap.size + 1, 0, none⟩ = some (.int .i64 z1) := by rw [Lib.cell_of_heap h_n1]; rfl
        have HL1 := Lib.hid (HLK.out w1 (below_grown hbw1 (Nat.le_refl _)))
        have HD1 := Lib.hid (HD.out.kept (below_grown hbw1 (Nat.le_refl _)) (by simp))
        clear HLK HD
        go_wp2_with (first
          | (rw [← HX1.out])
          | (at_lookup; refine wpList_lookup_known rfl _ _ _ _ rfl _ _ _ rfl rfl HL1.out ?_)
          | (at_mapUpdate; refine wpList_mapUpdate_own _ rfl _ _ _ 52 rfl 54 3 name_law Tryd.underlying52 (plainElem Tryd.prog 3) (w.heap.size + 1 + 1 + 1) k D rfl HD1.out (by unfold maxLen; omega) _ _ (nameKey z1) rfl rfl hkey.out (.lit (.int .i64 (k : Int))) [] (plainElem_int Tryd.underlying3 (WalkArith.wf_i64 (by omega))) ?_
             intro w2 hD2 hg2
             have hs2 := hg2.size
             have h_e2 := (hg2.block wr.heap.size (by omega) (by simp; omega)).trans h_e1
             have h_s2 := (hg2.block (w.heap.size + 1) (by omega) (by simp)).trans ((hbw1.block _ (by omega)).trans hst0)
             have a0 : w2.cell? ⟨w.heap.size + 1, 0, none⟩ = some (.int .i64 t) := by rw [Lib.cell_of_heap h_s2]; rfl
             have a1 : w2.cell? ⟨w.heap.size + 1, 1, none⟩ = some (.bool c) := by rw [Lib.cell_of_heap h_s2]; rfl
             have a2 : w2.cell? ⟨w.heap.size + 1, 2, none⟩ = some (.int .i64 x) := by rw [Lib.cell_of_heap h_s2]; rfl
             have a3 : w2.cell? ⟨w.heap.size + 1, 3, none⟩ = some (.int .i64 v) := by rw [Lib.cell_of_heap h_s2]; rfl
             have b1 : w2.cell? ⟨wr.heap.size, 1, none⟩ = some (.int .i64 z1) := by rw [Lib.cell_of_heap h_e2]; rfl
             have b2 : w2.cell? ⟨wr.heap.size, 2, none⟩ = some (.int .i64 z2) := by rw [Lib.cell_of_heap h_e2]; rfl
             have b3 : w2.cell? ⟨wr.heap.size, 3, none⟩ = some (.int .i64 z3) := by rw [Lib.cell_of_heap h_e2]; rfl
             have b4 : w2.cell? ⟨wr.heap.size, 4, none⟩ = some (.int .i64 z4) := by rw [Lib.cell_of_heap h_e2]; rfl
             have b5 : w2.cell? ⟨wr.heap.size, 5, none⟩ = some (.int .i64 z5) := by rw [Lib.cell_of_heap h_e2]; rfl))
        have h_w2 := (hg2.block (w.heap.size + 1 + 1) (by omega) (by simp)).trans ((hbw1.block _ (by omega)).trans hrow)
        have hfr2 : ∀ q, q < wr.heap.size → q ≠ w.heap.size + 1 + 1 + 1 → w2.heap[q]? = wr.heap[q]? := fun q hq hne => (hg2.block q (by omega) (by simp; omega)).trans (hbw1.block q hq)
        have hb2 : Below w.heap.size wr w2 := (hbw1.mono (by omega)).trans ⟨hg2.os, hg2.tape, hg2.output, hg2.size, fun q hq => hg2.block q (by omega) (by simp; omega)⟩
        have HD2 := Lib.hid hD2
        clear h_e1 h_n1 n0 HL1 HD1 hst0 hrow hD2 hg2 hbw1
        refine (HDC.out _ (HAK'.out _ hb2)).mono ?_
        rintro e w3 ⟨V, rfl, hE, hb⟩
        clear a0 a1 a2 a3 b1 b2 b3 b4 b5 HDC HAK' h_e2
        have hs3 := hb.size
        have hV3 : EvH w2.heap.size w3.heap.size w3 V re := by
          rcases hE with h | ⟨e, g, h1, h2, h3, h4⟩
          · exact .inl h
          · exact .inr ⟨e, g, h1, h2, h3, lt_of_block h4, h4⟩
        have h_s3 := (hb.block (w.heap.size + 1) (by omega)).trans h_s2
        have h_w3 := (hb.block (w.heap.size + 1 + 1) (by omega)).trans h_w2
        have hfr3 : ∀ q, q < wr.heap.size → q ≠ w.heap.size + 1 + 1 + 1 → w3.heap[q]? = wr.heap[q]? := fun q hq hne => (hb.block q (by omega)).trans (hfr2 q hq hne)
        have hb3 : Below w.heap.size wr w3 := hb2.trans (hb.mono (by omega))
        have HD3 := Lib.hid (HD2.out.kept (below_grown hb (Nat.le_refl _)) (by simp))
        clear h_s2 h_w2 hfr2 hb2 hE hb HD2
        obtain ⟨w4, HST, hrow4, k0, k1, k2, hcell, hbel, hsz, hoth⟩ := oc_store (i := k) rc rv hV3.oneCell h_w3 hcur hlt
        replace HST := Lib.hid HST
        have h_s4 := (hoth (w.heap.size + 1) (by omega)).trans h_s3
        have a0 : w4.cell? ⟨w.heap.size + 1, 0, none⟩ = some (.int .i64 t) := by rw [Lib.cell_of_heap h_s4]; rfl
        have a1 : w4.cell? ⟨w.heap.size + 1, 1, none⟩ = some (.bool c) := by rw [Lib.cell_of_heap h_s4]; rfl
        have a2 : w4.cell? ⟨w.heap.size + 1, 2, none⟩ = some (.int .i64 x) := by rw [Lib.cell_of_heap h_s4]; rfl
        have a3 : w4.cell? ⟨w.heap.size + 1, 3, none⟩ = some (.int .i64 v) := by rw [Lib.cell_of_heap h_s4]; rfl
        have f_s : ∀ i, w4.frozen? ⟨w.heap.size + 1, i, none⟩ = false := fun i => Lib.frozen_of_heap h_s4 i
        have hV4 : EvH w2.heap.size w4.heap.size w4 V re := hV3.keep (fun q hq _ => hoth q (by omega)) (Nat.le_refl _) (by omega)
        have HF := Lib.hid (fun (X : World) (hX : X.heap = w4.heap) => HBH.out w2.heap.size w4.heap.size X V (hV4.keep (fun q _ _ => by rw [hX]) (Nat.le_refl _) (Nat.le_refl _)))
        have hz4 : wr.heap.size + 2 ≤ w4.heap.size := by omega
        have hz2 : wr.heap.size + 2 ≤ w2.heap.size := by omega
        replace hfr3 := Lib.hid hfr3
        replace hb3 := Lib.hid hb3
        replace hcell := Lib.hid hcell
        replace hbel := Lib.hid hbel
        replace hoth := Lib.hid hoth
        replace hrow4 := Lib.hid hrow4
        replace k0 := Lib.hid k0
        replace k1 := Lib.hid k1
        replace hV4 := Lib.hid hV4
        have HC3 := Lib.hid (fun q (hq : q < wr.heap.size) (h1 : q ≠ w.heap.size + 1 + 1 + 1) (h2 : q ≠ w.heap.size + 1 + 1) => (hoth.out q h2).trans (hfr3.out q hq h1))
        clear HBH hV3 h_s3 h_w3 hkey HX1 hz1
        go_wp2_with (refine wpList_store_known rfl 33 _ _ rfl ⟨w.heap.size + 1 + 1, k * 3, none⟩ _ rfl rfl HST.out ?_)
        go_region_with ((go_at_call 22; (refine (HF.out w4.drew rfl).mono ?_); rintro e w5 ⟨rfl, hb⟩; have h_s5 := (hb.block (w.heap.size + 1) (by show w.heap.size + 1 < w4.heap.size; omega)).trans h_s4; have d0 : w5.cell? ⟨w.heap.size + 1, 0, none⟩ = some (.int .i64 t) := (by rw [Lib.cell_of_heap h_s5]; rfl); have d1 : w5.cell? ⟨w.heap.size + 1, 1, none⟩ = some (.bool c) := (by rw [Lib.cell_of_heap h_s5]; rfl); have d2 : w5.cell? ⟨w.heap.size + 1, 2, none⟩ = some (.int .i64 x) := (by rw [Lib.cell_of_heap h_s5]; rfl); have d3 : w5.cell? ⟨w.heap.size + 1, 3, none⟩ = some (.int .i64 v) := (by rw [Lib.cell_of_heap h_s5]; rfl); have df : ∀ i, w5.frozen? ⟨w.heap.size + 1, i, none⟩ = false := (fun i => Lib.frozen_of_heap h_s5 i)))
        all_goals
          have hl4 : w4.drew.heap.size = w4.heap.size := rfl
          have hb5 : Below w4.heap.size w4 w5 := (show Below w4.heap.size w4 w4.drew from (Below.refl _ _).drew).trans hb
          have hs5 : w4.heap.size ≤ w5.heap.size := hb5.size
          clear hb hl4
          obtain ⟨w6, HW6⟩ : ∃ W : World, Hid (W = (((w5.setCell ⟨w.heap.size + 1, 0, none⟩ (.int .i64 t')).setCell ⟨w.heap.size + 1, 1, none⟩ (.bool c')).setCell ⟨w.heap.size + 1, 2, none⟩ (.int .i64 x')).setCell ⟨w.heap.size + 1, 3, none⟩ (.int .i64 v')) := ⟨_, Lib.hid rfl⟩
          obtain ⟨h_s6, hb6, hz6, hoth6⟩ := set_four (n := w.heap.size + 1) h_s5 (Nat.le_refl _) HW6.out
          rw [← HW6.out]
          clear HW6 d0 d1 d2 d3 df a0 a1 a2 a3 f_s
          go_wp2_with fail
          go_roundw
          case measure => simp [intOf]; omega
          case rel =>
            have hq6 : ∀ q, q < w4.heap.size → q ≠ w.heap.size + 1 → w6.heap[q]? = w4.heap[q]? := fun q hq hne => (hoth6 q hne).trans (hb5.block q hq)
            have hcw : ∀ q, w6.cell? ⟨w.heap.size + 1 + 1, q, none⟩ = w4.cell? ⟨w.heap.size + 1 + 1, q, none⟩ := fun q => by
              exact cell_heap (hq6 (w.heap.size + 1 + 1) (by omega) (by omega))
            have hbr : Below w.heap.size wr w6 := ((hb3.out.trans (hbel.out _ (by omega))).trans (hb5.mono (by omega))).trans (hb6.mono (by omega))
            refine ⟨k + 1, by omega, by go_num, ofI_next hlt HI.out hu.out hbr (by omega) (fun q hq h1 h2 h3 => (hq6 q (by omega) h1).trans (HC3.out q hq h3 h2)) h_s6 ?_ ((hcw _).trans k0.out) ((hcw _).trans k1.out) ((hcw _).trans k2) (hV4.out.keep (fun q hq hq' => hq6 q hq' (by omega)) (by omega) (by omega)) (fun i hi hi' d hd => (hcw _).trans ((hcell.out i hi hi' d hd).trans ?_)) ⟨_, ?_, HKP.out⟩⟩
            · obtain ⟨cur', hc1, hc2⟩ := hrow4.out
              exact ⟨cur', (hq6 _ (by omega) (by omega)).trans hc1, hc2⟩
            · exact cell_heap (hfr3.out (w.heap.size + 1 + 1) (by omega) (by omega))
            · have h1 := HD3.out.kept (oc_grown (hbel.out 0 (by omega)) hoth.out) (by simp)
              have h2 := h1.kept (below_grown hb5 (Nat.le_refl _)) (by simp)
              exact h2.kept (oc_grown (hb6.mono (by omega)) hoth6) (fun e => by injection e; omega)
    · obtain rfl : k = es.length := by omega
      have hl2 := upTo_len (l := es) (i := es.length) (Nat.le_refl _)
      have HI := Lib.hid hI
      have hrs := hI.res
      have hst := hI.st
      have hsI := hI.size
      have hfo : Hid (foldL es = upTo es es.length) := Lib.hid rfl
      clear hI HCA HAK HID
      generalize upTo es es.length = r at *
      obtain ⟨⟨t, c, x, v⟩, os⟩ := r
      dsimp only at hst hl2
      have a0 : wr.cell? ⟨w.heap.size + 1, 0, none⟩ = some (.int .i64 t) := by rw [Lib.cell_of_heap hst]; rfl
      have a1 : wr.cell? ⟨w.heap.size + 1, 1, none⟩ = some (.bool c) := by rw [Lib.cell_of_heap hst]; rfl
      have a2 : wr.cell? ⟨w.heap.size + 1, 2, none⟩ = some (.int .i64 x) := by rw [Lib.cell_of_heap hst]; rfl
      have a3 : wr.cell? ⟨w.heap.size + 1, 3, none⟩ = some (.int .i64 v) := by rw [Lib.cell_of_heap hst]; rfl
      obtain ⟨w2, HST, h_r2, hbel, hsz, hoth⟩ := st_store (n := w.heap.size) t c x v hrs rfl (Nat.le_refl _)
      replace HST := Lib.hid HST
      clear hrs hst
      go_wp2_with (refine wpList_store_known rfl 25 _ _ rfl ⟨w.heap.size, 0, none⟩ _ rfl rfl HST.out ?_)
      (try simp only [Exit.inBlock, Exit.then]); refine bodyPost_ret (results_row_tmp rfl _ _ w.heap.size 25 #[.int .i64 t, .bool c, .int .i64 x, .int .i64 v] (0, 0) _ rfl h_r2 Tryd.underlying25 rfl (by kernel_rfl)) rfl ?_
      have hfo' : upTo es es.length = (⟨t, c, x, v⟩, os) := hfo.out
      have hI := HI.out
      rw [hfo.out]
      refine ⟨w.heap.size + 1 + 1, by rw [show ((⟨t, c, x, v⟩ : St), os).2.length = es.length from hl2]; rfl, by omega, by omega, ?_, fun j hj => ?_, hI.bel.trans hbel⟩
      · obtain ⟨cur, h1, h2⟩ := hI.row
        exact ⟨cur, (hoth _ (by omega)).trans h1, by rw [h2]; simp [hl2]⟩
      · have h1 := hI.ocs j (by simp at hj; omega)
        rw [hfo'] at h1
        have hj' : j < os.length := hj
        rw [show (((⟨t, c, x, v⟩ : St), os).2.getD j oc0) = os[j] by simp [List.getD_eq_getElem?_getD, List.getElem?_eq_getElem hj']] at h1
        exact h1.keep (hoth _ (by omega)) (fun q hq _ => hoth q (by omega)) (by omega) (by omega)
end Go.Proofs.YtafhjlfnhgkcoaaDoor
