/-
  Apply of the document: each row of the chapter's table.
-/
import Derived.Test.YtnbhdehpdfojlaaDoorRgPure
import Derived.Laws.IdiomCopy
namespace Go.Proofs.YtnbhdehpdfojlaaDoor
open Go.RowKit Go.Sort
theorem one_store {X : World} {ty : TypeId} {g i : Nat} {u old : Value} (hagg : (Tryd.prog.info? ty).map (·.size) = some 1) (hu : u.cells = #[u]) (h1 : u.oneCell' = true) (hc : X.cell? ⟨g, i, none⟩ = some old) (hf : X.frozen? ⟨g, i, none⟩ = false) : (storeVar ty ⟨g, i, none⟩ u).run Tryd.prog X = .ok () (X.setCell ⟨g, i, none⟩ u) := by
  cases hq : Tryd.prog.info? ty with
  | none => rw [hq] at hagg; simp at hagg
  | some q =>
    rw [hq] at hagg
    simp at hagg
    have h := run_storeCells_cells (P := Tryd.prog) g i [u] 0 X (fun j hj => by
      obtain rfl : j = 0 := by simpa using hj
      simp [hc]) (fun j hj => by
      obtain rfl : j = 0 := by simpa using hj
      simpa using hf) (fun v hv => by simp at hv; subst hv; exact h1)
    simp only [Nat.add_zero, World.setCells] at h
    simp [storeVar, Sem.run_bind, sizeOf, typeInfo, hq, hagg, hu, h]
/-- One cell of a box of four written: what is told of the box and of what lies elsewhere. -/
theorem box_set {X : World} {g i : Nat} {cs : Array Value} {u : Value} (ty : TypeId) (hagg : (Tryd.prog.info? ty).map (·.size) = some 1) (hu : u.cells = #[u]) (h1 : u.oneCell' = true) (h : X.heap[g]? = some (.cells cs 24 (0, 0))) (hi : i < cs.size) (n : Nat) (hn : n ≤ g) :
    ∃ Y, Hid ((storeVar ty ⟨g, i, none⟩ u).run Tryd.prog X = .ok () Y) ∧ Y.heap[g]? = some (.cells (cs.set! i u) 24 (0, 0)) ∧ Below n X Y ∧ Y.heap.size = X.heap.size ∧ ∀ k, k ≠ g → Y.heap[k]? = X.heap[k]? := by
  have hc : X.cell? ⟨g, i, none⟩ = some cs[i] := by rw [Lib.cell_of_heap h]; simp [hi]
  refine ⟨_, Lib.hid (one_store hagg hu h1 hc (Lib.frozen_of_heap h i)), ?_, (Below.refl n X).setCell (p := ⟨g, i, none⟩) hn u, by simp, fun k hk => Below.heap_setCell _ _ _ _ hk⟩
  have := heap_setCell_same X g i cs 24 u h
  rw [this]
  simp [Array.set!_eq_setIfInBounds]
/-- A register that may be, and a record: what is done first. -/
theorem appQ_1 {r : Re} {ep vi fr le : Int} {xs : List En} (h : r.may = true) : appQ r ⟨1, ep, vi, fr, le, xs⟩ = if ep ≤ r.p ∨ 1048576 < ep then (Re.zero, false) else (⟨ep, r.v, r.es, r.m⟩, true) := by
  have hm := (Re.may_iff r).1 h
  have hb : beh r ⟨1, ep, vi, fr, le, xs⟩ = (⟨ep, r.v, r.es, r.m⟩, decide (r.p < ep)) := by simp [beh]
  by_cases c : ep ≤ r.p ∨ 1048576 < ep
  · rw [if_pos c]
    rcases c with c | c
    · exact appQ_beh (by rw [hb]; exact decide_eq_false (by omega))
    · refine appQ_not ?_
      rw [hb, ← Bool.not_eq_true, Re.may_iff]
      dsimp only
      omega
  · rw [if_neg c]
    have := appQ_yes (x := ⟨1, ep, vi, fr, le, xs⟩) h (by rw [hb]; exact decide_eq_true (by omega)) (by rw [hb, Re.may_iff]; dsimp only; exact ⟨hm.1, by omega, by omega, hm.2.2.2.1, hm.2.2.2.2⟩)
    rw [this, hb]
theorem appQ_3 {r : Re} {ep vi fr le : Int} {xs : List En} (h : r.may = true) : appQ r ⟨3, ep, vi, fr, le, xs⟩ = if le ≤ r.m ∨ (r.es.length : Int) < le then (Re.zero, false) else (⟨r.p, r.v, r.es, le⟩, true) := by
  have hm := (Re.may_iff r).1 h
  have hb : beh r ⟨3, ep, vi, fr, le, xs⟩ = (⟨r.p, r.v, r.es, le⟩, decide (r.m < le)) := by simp [beh]
  by_cases c : le ≤ r.m ∨ (r.es.length : Int) < le
  · rw [if_pos c]
    rcases c with c | c
    · exact appQ_beh (by rw [hb]; exact decide_eq_false (by omega))
    · refine appQ_not ?_
      rw [hb, ← Bool.not_eq_true, Re.may_iff]
      dsimp only
      omega
  · rw [if_neg c]
    have := appQ_yes (x := ⟨3, ep, vi, fr, le, xs⟩) h (by rw [hb]; exact decide_eq_true (by omega)) (by rw [hb, Re.may_iff]; dsimp only; exact ⟨hm.1, hm.2.1, hm.2.2.1, hm.2.2.2.1, by omega, by omega⟩)
    rw [this, hb]
theorem appQ_4 {r : Re} {ep vi fr le : Int} {xs : List En} (h : r.may = true) : appQ r ⟨4, ep, vi, fr, le, xs⟩ = if r.p ≠ 0 ∨ (Re.mk ep vi xs le).may = false then (Re.zero, false) else (⟨ep, vi, xs, le⟩, true) := by
  have hb : beh r ⟨4, ep, vi, fr, le, xs⟩ = (⟨ep, vi, xs, le⟩, decide (r.p = 0)) := by simp [beh]
  by_cases c : r.p ≠ 0 ∨ (Re.mk ep vi xs le).may = false
  · rw [if_pos c]
    rcases c with c | c
    · exact appQ_beh (by rw [hb]; exact decide_eq_false c)
    · exact appQ_not (by rw [hb]; exact c)
  · rw [if_neg c]
    simp only [not_or, ne_eq, Decidable.not_not, Bool.not_eq_false] at c
    have := appQ_yes (x := ⟨4, ep, vi, fr, le, xs⟩) h (by rw [hb]; exact decide_eq_true c.1) (by rw [hb]; exact c.2)
    rw [this, hb]
theorem appQ_0 {r : Re} {ki ep vi fr le : Int} {xs : List En} (h1 : ¬ ki = 1) (h2 : ¬ ki = 2) (h3 : ¬ ki = 3) (h4 : ¬ ki = 4) : appQ r ⟨ki, ep, vi, fr, le, xs⟩ = (Re.zero, false) := appQ_beh (by simp [beh, h1, h2, h3, h4])
/-- From where on, by the document. -/
def frmR (r : Re) (ep : Int) : Nat := if ep = r.v then r.es.length else 0
theorem frmR_le (r : Re) (ep : Int) : frmR r ep ≤ r.es.length := by unfold frmR; split <;> omega
theorem appQ_2no {r : Re} {ep vi fr le : Int} {xs : List En} (h : r.may = true) (c : ep < 1 ∨ ep < r.p ∨ 1048576 < ep ∨ fr ≠ (frmR r ep : Int)) : appQ r ⟨2, ep, vi, fr, le, xs⟩ = (Re.zero, false) := by
  have hm := (Re.may_iff r).1 h
  rw [show appQ r ⟨2, ep, vi, fr, le, xs⟩ = appQ r ⟨2, ep, vi, fr, le, xs⟩ from rfl]
  by_cases c2 : ep < 1 ∨ ep < r.p ∨ fr ≠ (frm r ep : Int)
  · exact appQ_beh (by rw [beh_view _ _ rfl, viw, if_pos c2])
  · have hf : frmR r ep = frm r ep := by
      simp only [not_or] at c2
      unfold frmR frm
      by_cases e : ep = r.v
      · rw [if_pos e, if_neg (by omega)]
      · rw [if_neg e, if_pos (by omega)]
    rw [hf] at c
    simp only [not_or] at c2
    refine appQ_not ?_
    rw [beh_view _ _ rfl, viw, if_neg (by simp only [not_or]; exact c2), ← Bool.not_eq_true, Re.may_iff]
    dsimp only
    rcases c with c | c | c | c
    · exact absurd c c2.1
    · exact absurd c c2.2.1
    · omega
    · exact absurd c c2.2.2
theorem behD_2 {r : Re} {ep vi fr le : Int} {xs : List En} (h : r.may = true) (c1 : ¬ ep < 1) (c2 : ¬ ep < r.p) (c3 : fr = (frmR r ep : Int)) : beh r ⟨2, ep, vi, fr, le, xs⟩ = (⟨ep, ep, r.es.take (frmR r ep) ++ xs, r.m⟩, pre (r.es.take r.m.toNat) (r.es.take (frmR r ep) ++ xs)) := by
  have hm := (Re.may_iff r).1 h
  have hf : frmR r ep = frm r ep := by
    unfold frmR frm
    by_cases e : ep = r.v
    · rw [if_pos e, if_neg (by omega)]
    · rw [if_neg e, if_pos (by omega)]
  rw [hf] at c3 ⊢
  rw [beh_view _ _ rfl, viw, if_neg (by simp only [not_or]; exact ⟨c1, c2, fun h => h c3⟩)]
theorem pre_all {a b : List En} {m : Nat} (hm : m ≤ a.length) (hb : m ≤ b.length) (h : ∀ j (h1 : j < a.length) (h2 : j < b.length), j < m → b[j] = a[j]) : pre (a.take m) b = true := by
  rw [pre_iff, List.prefix_iff_eq_take]
  have hl : (a.take m).length = m := by simp [Nat.min_eq_left hm]
  rw [hl]
  refine List.ext_getElem (by simp [Nat.min_eq_left hm, Nat.min_eq_left hb]) fun j h1 h2 => ?_
  rw [List.getElem_take, List.getElem_take]
  simp at h1 h2
  exact (h j (by omega) (by omega) (by omega)).symm
theorem pre_not {a b : List En} {m j : Nat} (hm : m ≤ a.length) (hj : j < m) (hb : j < b.length) (h : b[j] ≠ a[j]) : pre (a.take m) b = false := by
  rw [← Bool.not_eq_true, pre_iff]
  intro hp
  have := List.IsPrefix.getElem hp (i := j) (by simp; omega)
  rw [List.getElem_take] at this
  exact h this.symm
theorem pre_short {a b : List En} {m : Nat} (hm : m ≤ a.length) (hb : b.length < m) : pre (a.take m) b = false := by
  rw [← Bool.not_eq_true, pre_iff]
  intro hp
  have := hp.length_le
  simp at this
  omega
set_option maxRecDepth 100000 in
set_option maxHeartbeats 4000000 in
theorem rapply_not (p v m ki st ep vi fr le : Int) (es xs : List En) (A XA FA : Option Addr) (c xc fn fc : Nat) (w : World) (ha : EsB w.heap.size w (.slice A es.length c) es) (hmay : (Re.mk p v es m).may = false) : Calls Tryd.prog 12 #[.agg #[.int .i64 p, .int .i64 v, .slice A es.length c, .int .i64 m], .agg #[.int .i64 ki, .int .i64 st, .int .i64 ep, .int .i64 vi, .int .i64 fr, .int .i64 le, .slice XA xs.length xc, .slice FA fn fc]] w (BehPost (appQ ⟨p, v, es, m⟩ ⟨ki, ep, vi, fr, le, xs⟩) w) := by
  rw [appQ_no hmay]
  obtain ⟨w1, HX1⟩ : ∃ W : World, Hid (W = ((w.alloc (.cells #[.int .i64 p, .int .i64 v, .slice A es.length c, .int .i64 m] 24)).alloc (.cells #[.int .i64 ki, .int .i64 st, .int .i64 ep, .int .i64 vi, .int .i64 fr, .int .i64 le, .slice XA xs.length xc, .slice FA fn fc] 27)).alloc (.cells #[.int .i64 0, .int .i64 0, .slice none 0 0, .int .i64 0] 24)) := ⟨_, Lib.hid rfl⟩
  obtain ⟨hz1, hb1, hg1, hr1, hq1⟩ := three_new HX1.out
  obtain ⟨n0, n1, n2, n3⟩ := box4 hg1
  have HC := Lib.hid (rregCheck_any p v m w1 (keepE hb1 ha))
  rw [hmay] at HC
  clear ha hg1 hr1 hmay
  go_enter Tryd.func12, Tryd.ntmps12
  go_wp2_with (rw [← HX1.out])
  refine (HC.out).mono ?_
  rintro e w2 ⟨rfl, hb2⟩
  obtain ⟨w3, HST, hq, hbl, -, -⟩ := rg_store w.heap.size 0 0 none 0 0 0 (keepH hb2 hq1) rfl (by omega)
  have hW := (keepB hb1 hb2).trans hbl
  clear n0 n1 n2 n3 HC hb2 hbl hq1 hb1
  go_wp2_with (with_reducible refine wpList_store_known (by rfl) 24 _ _ (by rfl) ⟨w.heap.size + 1 + 1, 0, none⟩ _ (by with_unfolding_all rfl) (by with_unfolding_all rfl) HST.out ?_)
  (try simp only [Exit.inBlock, Exit.then]); refine bodyPost_ret (results_row_tmp rfl _ _ (w.heap.size + 1 + 1) 24 #[.int .i64 0, .int .i64 0, .slice none 0 0, .int .i64 0] (0, 0) _ rfl hq Tryd.underlying24 rfl (by kernel_rfl)) rfl ?_
  exact ⟨none, 0, rfl, es_nil _ _, hW⟩
set_option maxRecDepth 100000 in
set_option maxHeartbeats 16000000 in
theorem rapply_1 (p v : Int) (m : Nat) (st ep vi fr le : Int) (es xs : List En) (A XA FA : Option Addr) (c xc fn fc : Nat) (w : World) (ha : EsB w.heap.size w (.slice A es.length c) es) (hx : EsB w.heap.size w (.slice XA xs.length xc) xs) (hmay : (Re.mk p v es m).may = true) (_ : xs.length ≤ 100000) (Q : Re × Bool) (hAQ0 : Hid (appQ ⟨p, v, es, m⟩ ⟨1, ep, vi, fr, le, xs⟩ = Q)) : Calls Tryd.prog 12 #[.agg #[.int .i64 p, .int .i64 v, .slice A es.length c, .int .i64 (m : Int)], .agg #[.int .i64 1, .int .i64 st, .int .i64 ep, .int .i64 vi, .int .i64 fr, .int .i64 le, .slice XA xs.length xc, .slice FA fn fc]] w (BehPost Q w) := by
  obtain ⟨hl64, -, hml⟩ := may_len hmay
  dsimp only at hl64 hml
  replace hml : m ≤ es.length := by omega
  obtain ⟨w1, HX1⟩ : ∃ W : World, Hid (W = ((w.alloc (.cells #[.int .i64 p, .int .i64 v, .slice A es.length c, .int .i64 (m : Int)] 24)).alloc (.cells #[.int .i64 1, .int .i64 st, .int .i64 ep, .int .i64 vi, .int .i64 fr, .int .i64 le, .slice XA xs.length xc, .slice FA fn fc] 27)).alloc (.cells #[.int .i64 0, .int .i64 0, .slice none 0 0, .int .i64 0] 24)) := ⟨_, Lib.hid rfl⟩
  obtain ⟨hz1, hb1, hg1, hr1, hq1⟩ := three_new HX1.out
  obtain ⟨n0, n1, n2, n3⟩ := box4 hg1
  have HC := Lib.hid (rregCheck_any p v m w1 (keepE hb1 ha))
  rw [hmay] at HC
  have hE1 := keepE hb1 ha
  have hF1 := keepE hb1 hx
  replace hmay := Lib.hid hmay
  clear ha hx
  go_enter Tryd.func12, Tryd.ntmps12
  go_wp2_with (rw [← HX1.out])
  refine (HC.out).mono ?_
  rintro e w2 ⟨rfl, hb2⟩
  have hg2 := keepH hb2 hg1
  have hr2 := keepH hb2 hr1
  have hq2 := keepH hb2 hq1
  have hE2 := keepE hb2 hE1
  have hF2 := keepE hb2 hF1
  have hW2 := keepB hb1 hb2
  have hz2 := lt_of_block hq2
  clear n0 n1 n2 n3 HC hg1 hr1 hq1 hb1 hE1 hF1 hb2
  have HS : Hid (∀ X : World, Below w2.heap.size w2 X → X.cell? ⟨w.heap.size, 0, none⟩ = some (.int .i64 p) ∧ X.cell? ⟨w.heap.size, 1, none⟩ = some (.int .i64 v) ∧ X.cell? ⟨w.heap.size, 2, none⟩ = some (.slice A es.length c) ∧ X.cell? ⟨w.heap.size, 3, none⟩ = some (.int .i64 (m : Int))) := Lib.hid fun X hX => box4 (keepH hX hg2)
  go_upto_region 3 with fail
  go_cut [6] (fun u wx => ∃ g A' c', u = .pointer (some ⟨g, 0, none⟩) ∧ w2.heap.size ≤ g ∧ Hid (wx.heap[g]? = some (.cells #[.int .i64 p, .int .i64 v, .slice A' es.length c', .int .i64 (m : Int)] 24 (0, 0))) ∧ Hid (EsB wx.heap.size wx (.slice A' es.length c') es) ∧ Hid (Below w2.heap.size w2 wx))
  case first =>
    have hQ : Below w2.heap.size w2 w2.drew := (Below.refl _ _).drew
    have hH := HS.out _ hQ
    clear hg2 hr2 hq2 hF2 hW2 hml hmay hAQ0
    refine wp_region_held_drew (S := fun X => X.cell? ⟨w.heap.size, 0, none⟩ = some (.int .i64 p) ∧ X.cell? ⟨w.heap.size, 1, none⟩ = some (.int .i64 v) ∧ X.cell? ⟨w.heap.size, 2, none⟩ = some (.slice A es.length c) ∧ X.cell? ⟨w.heap.size, 3, none⟩ = some (.int .i64 (m : Int))) (by kernel_rfl) hH (fun hHeld => ?_)
    clear hH
    refine wpAnyH_take (i := 0) (v := ?_) rfl (by kernel_rfl) (by kernel_rfl) (by kernel_rfl) (fun _ _ _ h => h) (Or.inl ⟨by rfl, ?_⟩) (by assumption) ?_
    rotate_left
    · intro X hX
      go_simp
      try with_reducible rfl
    try simp only [List.getElem_toArray, List.getElem_cons_zero]
    try simp only [Act.put, List.setIfInBounds_toArray, List.set_cons_zero, List.set_cons_succ]
    refine wpAnyH_take (i := 1) (v := .int .i64 p) rfl (by kernel_rfl) (by kernel_rfl) (by kernel_rfl) (fun _ _ _ h => h) (Or.inl ⟨by rfl, ?_⟩) (by assumption) ?_
    · intro X hX
      obtain ⟨a0, a1, a2, a3⟩ := hX
      go_simp
    try simp only [List.getElem_toArray, List.getElem_cons_succ, List.getElem_cons_zero]
    try simp only [Act.put, List.setIfInBounds_toArray, List.set_cons_zero, List.set_cons_succ]
    refine wpAnyH_take (i := 2) (v := ?_) rfl (by kernel_rfl) (by kernel_rfl) (by kernel_rfl) (fun _ _ _ h => h) (Or.inl ⟨by rfl, ?_⟩) (by assumption) ?_
    rotate_left
    · intro X hX
      go_simp
      try with_reducible rfl
    try simp only [List.getElem_toArray, List.getElem_cons_succ, List.getElem_cons_zero]
    try simp only [Act.put, List.setIfInBounds_toArray, List.set_cons_zero, List.set_cons_succ]
    refine wpAnyH_take (i := 3) (v := .int .i64 v) rfl (by kernel_rfl) (by kernel_rfl) (by kernel_rfl) (fun _ _ _ h => h) (Or.inl ⟨by rfl, ?_⟩) (by assumption) ?_
    · intro X hX
      obtain ⟨a0, a1, a2, a3⟩ := hX
      go_simp
    try simp only [List.getElem_toArray, List.getElem_cons_succ, List.getElem_cons_zero]
    try simp only [Act.put, List.setIfInBounds_toArray, List.set_cons_zero, List.set_cons_succ]
    refine wpAnyH_take (i := 4) (v := ?_) rfl (by kernel_rfl) (by kernel_rfl) (by kernel_rfl) (fun _ _ _ h => h) (Or.inl ⟨by rfl, ?_⟩) (by assumption) ?_
    rotate_left
    · intro X hX
      go_simp
      try with_reducible rfl
    try simp only [List.getElem_toArray, List.getElem_cons_succ, List.getElem_cons_zero]
    try simp only [Act.put, List.setIfInBounds_toArray, List.set_cons_zero, List.set_cons_succ]
    refine wpAnyH_take (i := 5) (v := .slice A es.length c) rfl (by kernel_rfl) (by kernel_rfl) (by kernel_rfl) (fun _ _ _ h => h) (Or.inl ⟨by rfl, ?_⟩) (by assumption) ?_
    · intro X hX
      obtain ⟨a0, a1, a2, a3⟩ := hX
      go_simp
    try simp only [List.getElem_toArray, List.getElem_cons_succ, List.getElem_cons_zero]
    try simp only [Act.put, List.setIfInBounds_toArray, List.set_cons_zero, List.set_cons_succ]
    refine wpAnyH_take (i := 7) (v := ?_) rfl (by kernel_rfl) (by kernel_rfl) (by kernel_rfl) (fun _ _ _ h => h) (Or.inl ⟨by rfl, ?_⟩) (by assumption) ?_
    rotate_left
    · intro X hX
      go_simp
      try with_reducible rfl
    try simp only [List.getElem_toArray, List.getElem_cons_succ, List.getElem_cons_zero]
    try simp only [Act.put, List.setIfInBounds_toArray, List.set_cons_zero, List.set_cons_succ]
    refine wpAnyH_take (i := 8) (v := .int .i64 (m : Int)) rfl (by kernel_rfl) (by kernel_rfl) (by kernel_rfl) (fun _ _ _ h => h) (Or.inl ⟨by rfl, ?_⟩) (by assumption) ?_
    · intro X hX
      obtain ⟨a0, a1, a2, a3⟩ := hX
      go_simp
    try simp only [List.getElem_toArray, List.getElem_cons_succ, List.getElem_cons_zero]
    try simp only [Act.put, List.setIfInBounds_toArray, List.set_cons_zero, List.set_cons_succ]
    refine wpAnyH_ready (rs := [6,10]) (by kernel_rfl) (by simp) (AllReadyH.cons rfl (fun K hK => ?_) (AllReadyH.cons rfl (fun K hK => ?_) AllReadyH.nil))
    · obtain ⟨A', c', wm, hr6, hO, hg6, -⟩ := run_append_es (base := 0) (World.ownsRow_nil _ 0 _ 6) (keepE hQ hE2) (Nat.zero_le _) (by omega)
      rw [Nat.zero_add] at hr6 hO
      have hN := own_es (es := es) (by simpa using hO) (by omega)
      have hb := below_grow hg6 (fun q _ e => by simp [Value.ownBlock] at e) (Nat.le_refl _)
      refine step_app_known rfl _ _ 22 22 rfl (.slice none 0 0) (.slice A es.length c) (by simp [Act.eval]) (by simp [Act.eval]) hr6 ?_
      replace hQ := keepB hQ hb
      clear hr6 hO hg6 hb
      have hH := HS.out _ hQ
      refine hK.out _ _ ?_ (fun hHeld => ?_)
      · with_reducible exact hH
      clear hK K hH
      try simp only [List.getElem_toArray, List.getElem_cons_succ, List.getElem_cons_zero]
      try simp only [Act.put, List.setIfInBounds_toArray, List.set_cons_zero, List.set_cons_succ]
      refine wpAnyH_take (i := 9) (v := ?_) rfl (by kernel_rfl) (by kernel_rfl) (by kernel_rfl) (fun _ _ _ h => h) (Or.inl ⟨by rfl, ?_⟩) (by assumption) ?_
      rotate_left
      · intro X hX
        go_simp
        try with_reducible rfl
      try simp only [List.getElem_toArray, List.getElem_cons_succ, List.getElem_cons_zero]
      try simp only [Act.put, List.setIfInBounds_toArray, List.set_cons_zero, List.set_cons_succ]
      refine wpAnyH_ready (rs := [10]) (by kernel_rfl) (by simp) (AllReadyH.cons rfl (fun K hK => ?_) AllReadyH.nil)
      · refine step_alloc_new rfl 24 rfl #[.int .i64 0, .int .i64 0, .slice none 0 0, .int .i64 0] alloc_rg ?_
        intro gF wn hF hgFb hb
        replace hgFb : w2.heap.size ≤ gF := Nat.le_trans hQ.size hgFb
        replace hQ := keepB hQ hb
        replace hN := keepE hb hN
        clear hb
        have hH := HS.out _ hQ
        refine hK.out _ _ ?_ (fun hHeld => ?_)
        · with_reducible exact hH
        clear hK K hH
        try simp only [List.getElem_toArray, List.getElem_cons_succ, List.getElem_cons_zero]
        try simp only [Act.put, List.setIfInBounds_toArray, List.set_cons_zero, List.set_cons_succ]
        refine wpAnyH_ready (rs := [11]) (by kernel_rfl) (by simp) (AllReadyH.cons rfl (fun K hK => ?_) AllReadyH.nil)
        · obtain ⟨wm, HST, hNew, hbl, hzz, hoth⟩ := rg_store (w2.heap.size) (p) (v) (A') (es.length) (c') ((m : Int)) hF rfl hgFb
          refine step_store_known rfl 24 _ _ rfl ⟨gF, 0, none⟩ (.agg #[.int .i64 (p), .int .i64 (v), .slice (A') (es.length) (c'), .int .i64 ((m : Int))]) (by simp [Act.eval]) (by simp [Act.eval]) HST.out ?_
          replace hQ := hQ.trans hbl
          replace hN := es_store hN hF (by simp) hoth hzz
          replace hF := hNew
          clear HST hNew hbl hzz hoth
          have hH := HS.out _ hQ
          refine hK.out _ _ ?_ (fun hHeld => ?_)
          · with_reducible exact hH
          clear hK K hH
          try simp only [List.getElem_toArray, List.getElem_cons_succ, List.getElem_cons_zero]
          try simp only [Act.put]
          refine wpAnyH_done (by kernel_rfl) ?_ _
          go_wp2_with fail
          go_meet
          case rel => exact ⟨gF, A', c', rfl, hgFb, Lib.hid hF, Lib.hid hN, Lib.hid hQ⟩
    · refine step_alloc_new rfl 24 rfl #[.int .i64 0, .int .i64 0, .slice none 0 0, .int .i64 0] alloc_rg ?_
      intro gF wn hF hgFb hb
      replace hgFb : w2.heap.size ≤ gF := Nat.le_trans hQ.size hgFb
      replace hQ := keepB hQ hb
      clear hb
      have hH := HS.out _ hQ
      refine hK.out _ _ ?_ (fun hHeld => ?_)
      · with_reducible exact hH
      clear hK K hH
      try simp only [List.getElem_toArray, List.getElem_cons_succ, List.getElem_cons_zero]
      try simp only [Act.put, List.setIfInBounds_toArray, List.set_cons_zero, List.set_cons_succ]
      refine wpAnyH_ready (rs := [6]) (by kernel_rfl) (by simp) (AllReadyH.cons rfl (fun K hK => ?_) AllReadyH.nil)
      · obtain ⟨A', c', wm, hr6, hO, hg6, -⟩ := run_append_es (base := 0) (World.ownsRow_nil _ 0 _ 6) (keepE hQ hE2) (Nat.zero_le _) (by omega)
        rw [Nat.zero_add] at hr6 hO
        have hN := own_es (es := es) (by simpa using hO) (by omega)
        have hb := below_grow hg6 (fun q _ e => by simp [Value.ownBlock] at e) (Nat.le_refl _)
        refine step_app_known rfl _ _ 22 22 rfl (.slice none 0 0) (.slice A es.length c) (by simp [Act.eval]) (by simp [Act.eval]) hr6 ?_
        replace hQ := keepB hQ hb
        replace hF := keepH hb hF
        clear hr6 hO hg6 hb
        have hH := HS.out _ hQ
        refine hK.out _ _ ?_ (fun hHeld => ?_)
        · with_reducible exact hH
        clear hK K hH
        try simp only [List.getElem_toArray, List.getElem_cons_succ, List.getElem_cons_zero]
        try simp only [Act.put, List.setIfInBounds_toArray, List.set_cons_zero, List.set_cons_succ]
        refine wpAnyH_take (i := 9) (v := ?_) rfl (by kernel_rfl) (by kernel_rfl) (by kernel_rfl) (fun _ _ _ h => h) (Or.inl ⟨by rfl, ?_⟩) (by assumption) ?_
        rotate_left
        · intro X hX
          go_simp
          try with_reducible rfl
        try simp only [List.getElem_toArray, List.getElem_cons_succ, List.getElem_cons_zero]
        try simp only [Act.put, List.setIfInBounds_toArray, List.set_cons_zero, List.set_cons_succ]
        refine wpAnyH_ready (rs := [11]) (by kernel_rfl) (by simp) (AllReadyH.cons rfl (fun K hK => ?_) AllReadyH.nil)
        · obtain ⟨wm, HST, hNew, hbl, hzz, hoth⟩ := rg_store (w2.heap.size) (p) (v) (A') (es.length) (c') ((m : Int)) hF rfl hgFb
          refine step_store_known rfl 24 _ _ rfl ⟨gF, 0, none⟩ (.agg #[.int .i64 (p), .int .i64 (v), .slice (A') (es.length) (c'), .int .i64 ((m : Int))]) (by simp [Act.eval]) (by simp [Act.eval]) HST.out ?_
          replace hQ := hQ.trans hbl
          replace hN := es_store hN hF (by simp) hoth hzz
          replace hF := hNew
          clear HST hNew hbl hzz hoth
          have hH := HS.out _ hQ
          refine hK.out _ _ ?_ (fun hHeld => ?_)
          · with_reducible exact hH
          clear hK K hH
          try simp only [List.getElem_toArray, List.getElem_cons_succ, List.getElem_cons_zero]
          try simp only [Act.put]
          refine wpAnyH_done (by kernel_rfl) ?_ _
          go_wp2_with fail
          go_meet
          case rel => exact ⟨gF, A', c', rfl, hgFb, Lib.hid hF, Lib.hid hN, Lib.hid hQ⟩
  case rest =>
  obtain ⟨g6, A6, c6, rfl, hgb, hF, hN, hkp⟩ := hcut
  obtain ⟨w4, he⟩ : ∃ W, W = wc := ⟨_, rfl⟩
  subst he
  replace hkp := hkp.out
  have h6 := hF.out
  have e6 := hN.out
  have hg4 := keepH hkp hg2
  have hr4 := keepH hkp hr2
  have hq4 := keepH hkp hq2
  have hE4 := keepE hkp hE2
  have hF4 := keepE hkp hF2
  have hW4 := keepB hW2 hkp
  have hz6 := lt_of_block h6
  clear HS hg2 hr2 hq2 hE2 hF2 hW2 hF hN
  obtain ⟨n0, n1, n2, n3⟩ := box4 hg4
  obtain ⟨m0, m1, m2, m3, m4, m5, m6, m7⟩ := box8 hr4
  obtain ⟨k0, k1, k2, k3⟩ := box4 h6
  have hAQ := appQ_1 (ep := ep) (vi := vi) (fr := fr) (le := le) (xs := xs) hmay.out
  dsimp only at hAQ
  by_cases q1 : ep ≤ p
  · rw [if_pos (.inl q1), hAQ0.out] at hAQ
    have hQ := Lib.hid hAQ
    have t1 : decide (ep ≤ p) = true := decide_eq_true q1
    clear hAQ hAQ0 hmay q1
    obtain ⟨w9, HST9, hq9, hbl9, -, -⟩ := rg_store w.heap.size 0 0 none 0 0 0 hq4 rfl (by omega)
    have hW9 := hW4.trans hbl9
    clear h6 e6 hg4 hr4 hq4 hE4 hF4 hW4 hkp hbl9
    go_wp2_with (first | (with_reducible refine wpList_store_known (by rfl) 24 _ _ (by rfl) ⟨w.heap.size + 1 + 1, 0, none⟩ _ (by with_unfolding_all rfl) (by with_unfolding_all rfl) HST9.out ?_))
    (try simp only [Exit.inBlock, Exit.then]); refine bodyPost_ret (results_row_tmp rfl _ _ (w.heap.size + 1 + 1) 24 #[.int .i64 0, .int .i64 0, .slice none 0 0, .int .i64 0] (0, 0) _ rfl hq9 Tryd.underlying24 rfl (by kernel_rfl)) rfl ?_
    rw [hQ.out]
    exact ⟨none, 0, rfl, es_nil _ _, hW9⟩
  have t1 : decide (ep ≤ p) = false := decide_eq_false q1
  by_cases q2 : 1048576 < ep
  · rw [if_pos (.inr q2), hAQ0.out] at hAQ
    have hQ := Lib.hid hAQ
    have t2 : decide ((1048576 : Int) < ep) = true := decide_eq_true q2
    clear hAQ hAQ0 hmay q1 q2
    obtain ⟨w9, HST9, hq9, hbl9, -, -⟩ := rg_store w.heap.size 0 0 none 0 0 0 hq4 rfl (by omega)
    have hW9 := hW4.trans hbl9
    clear h6 e6 hg4 hr4 hq4 hE4 hF4 hW4 hkp hbl9
    go_wp2_with (first | (with_reducible refine wpList_store_known (by rfl) 24 _ _ (by rfl) ⟨w.heap.size + 1 + 1, 0, none⟩ _ (by with_unfolding_all rfl) (by with_unfolding_all rfl) HST9.out ?_))
    (try simp only [Exit.inBlock, Exit.then]); refine bodyPost_ret (results_row_tmp rfl _ _ (w.heap.size + 1 + 1) 24 #[.int .i64 0, .int .i64 0, .slice none 0 0, .int .i64 0] (0, 0) _ rfl hq9 Tryd.underlying24 rfl (by kernel_rfl)) rfl ?_
    rw [hQ.out]
    exact ⟨none, 0, rfl, es_nil _ _, hW9⟩
  have t2 : decide ((1048576 : Int) < ep) = false := decide_eq_false q2
  rw [if_neg (by simp only [not_or]; exact ⟨q1, q2⟩), hAQ0.out] at hAQ
  have hQ := Lib.hid hAQ
  obtain ⟨w5, HST5, h5, hbl5, hzz5, hoth5⟩ := box_set (i := 0) (u := .int .i64 ep) 3 (by kernel_rfl) rfl rfl h6 (by simp) w.heap.size (by omega)
  have h5' : w5.heap[g6]? = some (.cells #[.int .i64 ep, .int .i64 v, .slice A6 es.length c6, .int .i64 (m : Int)] 24 (0, 0)) := by rw [h5]; rfl
  have e5 := es_store e6 h6 (by simp) hoth5 hzz5
  have hq5 := (hoth5 (w.heap.size + 1 + 1) (by omega)).trans hq4
  have hW5 := hW4.trans hbl5
  obtain ⟨j0, j1, j2, j3⟩ := box4 h5'
  obtain ⟨w9, HST9, hq9, hbl9, hzz9, hoth9⟩ := rg_store w.heap.size ep v A6 es.length c6 (m : Int) hq5 rfl (by omega)
  have e9 := es_store e5 hq5 (by simp) hoth9 hzz9
  have hW9 := hW5.trans hbl9
  clear hAQ hAQ0 hmay q1 q2 h6 e6 hg4 hr4 hq4 hE4 hF4 hW4 hkp hbl9 h5 h5' e5 hq5 hW5 hbl5 hzz5 hoth5 hzz9 hoth9
  go_wp2_with (first | (with_reducible refine wpList_store_known (by rfl) 24 _ _ (by rfl) ⟨w.heap.size + 1 + 1, 0, none⟩ _ (by with_unfolding_all rfl) (by with_unfolding_all rfl) HST9.out ?_) | (with_reducible refine wpList_store_known (by rfl) 3 _ _ (by rfl) ⟨g6, 0, none⟩ (.int .i64 ep) (by with_unfolding_all rfl) (by with_unfolding_all rfl) HST5.out ?_))
  (try simp only [Exit.inBlock, Exit.then]); refine bodyPost_ret (results_row_tmp rfl _ _ (w.heap.size + 1 + 1) 24 #[.int .i64 ep, .int .i64 v, .slice A6 es.length c6, .int .i64 (m : Int)] (0, 0) _ rfl hq9 Tryd.underlying24 rfl (by kernel_rfl)) rfl ?_
  rw [hQ.out]
  exact ⟨A6, c6, rfl, e9, hW9⟩
set_option maxRecDepth 100000 in
set_option maxHeartbeats 16000000 in
theorem rapply_3 (p v : Int) (m : Nat) (st ep vi fr le : Int) (es xs : List En) (A XA FA : Option Addr) (c xc fn fc : Nat) (w : World) (ha : EsB w.heap.size w (.slice A es.length c) es) (hx : EsB w.heap.size w (.slice XA xs.length xc) xs) (hmay : (Re.mk p v es m).may = true) (_ : xs.length ≤ 100000) (Q : Re × Bool) (hAQ0 : Hid (appQ ⟨p, v, es, m⟩ ⟨3, ep, vi, fr, le, xs⟩ = Q)) : Calls Tryd.prog 12 #[.agg #[.int .i64 p, .int .i64 v, .slice A es.length c, .int .i64 (m : Int)], .agg #[.int .i64 3, .int .i64 st, .int .i64 ep, .int .i64 vi, .int .i64 fr, .int .i64 le, .slice XA xs.length xc, .slice FA fn fc]] w (BehPost Q w) := by
  obtain ⟨hl64, -, hml⟩ := may_len hmay
  dsimp only at hl64 hml
  replace hml : m ≤ es.length := by omega
  obtain ⟨w1, HX1⟩ : ∃ W : World, Hid (W = ((w.alloc (.cells #[.int .i64 p, .int .i64 v, .slice A es.length c, .int .i64 (m : Int)] 24)).alloc (.cells #[.int .i64 3, .int .i64 st, .int .i64 ep, .int .i64 vi, .int .i64 fr, .int .i64 le, .slice XA xs.length xc, .slice FA fn fc] 27)).alloc (.cells #[.int .i64 0, .int .i64 0, .slice none 0 0, .int .i64 0] 24)) := ⟨_, Lib.hid rfl⟩
  obtain ⟨hz1, hb1, hg1, hr1, hq1⟩ := three_new HX1.out
  obtain ⟨n0, n1, n2, n3⟩ := box4 hg1
  have HC := Lib.hid (rregCheck_any p v m w1 (keepE hb1 ha))
  rw [hmay] at HC
  have hE1 := keepE hb1 ha
  have hF1 := keepE hb1 hx
  replace hmay := Lib.hid hmay
  clear ha hx
  go_enter Tryd.func12, Tryd.ntmps12
  go_wp2_with (rw [← HX1.out])
  refine (HC.out).mono ?_
  rintro e w2 ⟨rfl, hb2⟩
  have hg2 := keepH hb2 hg1
  have hr2 := keepH hb2 hr1
  have hq2 := keepH hb2 hq1
  have hE2 := keepE hb2 hE1
  have hF2 := keepE hb2 hF1
  have hW2 := keepB hb1 hb2
  have hz2 := lt_of_block hq2
  clear n0 n1 n2 n3 HC hg1 hr1 hq1 hb1 hE1 hF1 hb2
  have HS : Hid (∀ X : World, Below w2.heap.size w2 X → X.cell? ⟨w.heap.size, 0, none⟩ = some (.int .i64 p) ∧ X.cell? ⟨w.heap.size, 1, none⟩ = some (.int .i64 v) ∧ X.cell? ⟨w.heap.size, 2, none⟩ = some (.slice A es.length c) ∧ X.cell? ⟨w.heap.size, 3, none⟩ = some (.int .i64 (m : Int))) := Lib.hid fun X hX => box4 (keepH hX hg2)
  go_upto_region 3 with fail
  go_cut [6] (fun u wx => ∃ g A' c', u = .pointer (some ⟨g, 0, none⟩) ∧ w2.heap.size ≤ g ∧ Hid (wx.heap[g]? = some (.cells #[.int .i64 p, .int .i64 v, .slice A' es.length c', .int .i64 (m : Int)] 24 (0, 0))) ∧ Hid (EsB wx.heap.size wx (.slice A' es.length c') es) ∧ Hid (Below w2.heap.size w2 wx))
  case first =>
    have hQ : Below w2.heap.size w2 w2.drew := (Below.refl _ _).drew
    have hH := HS.out _ hQ
    clear hg2 hr2 hq2 hF2 hW2 hml hmay hAQ0
    refine wp_region_held_drew (S := fun X => X.cell? ⟨w.heap.size, 0, none⟩ = some (.int .i64 p) ∧ X.cell? ⟨w.heap.size, 1, none⟩ = some (.int .i64 v) ∧ X.cell? ⟨w.heap.size, 2, none⟩ = some (.slice A es.length c) ∧ X.cell? ⟨w.heap.size, 3, none⟩ = some (.int .i64 (m : Int))) (by kernel_rfl) hH (fun hHeld => ?_)
    clear hH
    refine wpAnyH_take (i := 0) (v := ?_) rfl (by kernel_rfl) (by kernel_rfl) (by kernel_rfl) (fun _ _ _ h => h) (Or.inl ⟨by rfl, ?_⟩) (by assumption) ?_
    rotate_left
    · intro X hX
      go_simp
      try with_reducible rfl
    try simp only [List.getElem_toArray, List.getElem_cons_zero]
    try simp only [Act.put, List.setIfInBounds_toArray, List.set_cons_zero, List.set_cons_succ]
    refine wpAnyH_take (i := 1) (v := .int .i64 p) rfl (by kernel_rfl) (by kernel_rfl) (by kernel_rfl) (fun _ _ _ h => h) (Or.inl ⟨by rfl, ?_⟩) (by assumption) ?_
    · intro X hX
      obtain ⟨a0, a1, a2, a3⟩ := hX
      go_simp
    try simp only [List.getElem_toArray, List.getElem_cons_succ, List.getElem_cons_zero]
    try simp only [Act.put, List.setIfInBounds_toArray, List.set_cons_zero, List.set_cons_succ]
    refine wpAnyH_take (i := 2) (v := ?_) rfl (by kernel_rfl) (by kernel_rfl) (by kernel_rfl) (fun _ _ _ h => h) (Or.inl ⟨by rfl, ?_⟩) (by assumption) ?_
    rotate_left
    · intro X hX
      go_simp
      try with_reducible rfl
    try simp only [List.getElem_toArray, List.getElem_cons_succ, List.getElem_cons_zero]
    try simp only [Act.put, List.setIfInBounds_toArray, List.set_cons_zero, List.set_cons_succ]
    refine wpAnyH_take (i := 3) (v := .int .i64 v) rfl (by kernel_rfl) (by kernel_rfl) (by kernel_rfl) (fun _ _ _ h => h) (Or.inl ⟨by rfl, ?_⟩) (by assumption) ?_
    · intro X hX
      obtain ⟨a0, a1, a2, a3⟩ := hX
      go_simp
    try simp only [List.getElem_toArray, List.getElem_cons_succ, List.getElem_cons_zero]
    try simp only [Act.put, List.setIfInBounds_toArray, List.set_cons_zero, List.set_cons_succ]
    refine wpAnyH_take (i := 4) (v := ?_) rfl (by kernel_rfl) (by kernel_rfl) (by kernel_rfl) (fun _ _ _ h => h) (Or.inl ⟨by rfl, ?_⟩) (by assumption) ?_
    rotate_left
    · intro X hX
      go_simp
      try with_reducible rfl
    try simp only [List.getElem_toArray, List.getElem_cons_succ, List.getElem_cons_zero]
    try simp only [Act.put, List.setIfInBounds_toArray, List.set_cons_zero, List.set_cons_succ]
    refine wpAnyH_take (i := 5) (v := .slice A es.length c) rfl (by kernel_rfl) (by kernel_rfl) (by kernel_rfl) (fun _ _ _ h => h) (Or.inl ⟨by rfl, ?_⟩) (by assumption) ?_
    · intro X hX
      obtain ⟨a0, a1, a2, a3⟩ := hX
      go_simp
    try simp only [List.getElem_toArray, List.getElem_cons_succ, List.getElem_cons_zero]
    try simp only [Act.put, List.setIfInBounds_toArray, List.set_cons_zero, List.set_cons_succ]
    refine wpAnyH_take (i := 7) (v := ?_) rfl (by kernel_rfl) (by kernel_rfl) (by kernel_rfl) (fun _ _ _ h => h) (Or.inl ⟨by rfl, ?_⟩) (by assumption) ?_
    rotate_left
    · intro X hX
      go_simp
      try with_reducible rfl
    try simp only [List.getElem_toArray, List.getElem_cons_succ, List.getElem_cons_zero]
    try simp only [Act.put, List.setIfInBounds_toArray, List.set_cons_zero, List.set_cons_succ]
    refine wpAnyH_take (i := 8) (v := .int .i64 (m : Int)) rfl (by kernel_rfl) (by kernel_rfl) (by kernel_rfl) (fun _ _ _ h => h) (Or.inl ⟨by rfl, ?_⟩) (by assumption) ?_
    · intro X hX
      obtain ⟨a0, a1, a2, a3⟩ := hX
      go_simp
    try simp only [List.getElem_toArray, List.getElem_cons_succ, List.getElem_cons_zero]
    try simp only [Act.put, List.setIfInBounds_toArray, List.set_cons_zero, List.set_cons_succ]
    refine wpAnyH_ready (rs := [6,10]) (by kernel_rfl) (by simp) (AllReadyH.cons rfl (fun K hK => ?_) (AllReadyH.cons rfl (fun K hK => ?_) AllReadyH.nil))
    · obtain ⟨A', c', wm, hr6, hO, hg6, -⟩ := run_append_es (base := 0) (World.ownsRow_nil _ 0 _ 6) (keepE hQ hE2) (Nat.zero_le _) (by omega)
      rw [Nat.zero_add] at hr6 hO
      have hN := own_es (es := es) (by simpa using hO) (by omega)
      have hb := below_grow hg6 (fun q _ e => by simp [Value.ownBlock] at e) (Nat.le_refl _)
      refine step_app_known rfl _ _ 22 22 rfl (.slice none 0 0) (.slice A es.length c) (by simp [Act.eval]) (by simp [Act.eval]) hr6 ?_
      replace hQ := keepB hQ hb
      clear hr6 hO hg6 hb
      have hH := HS.out _ hQ
      refine hK.out _ _ ?_ (fun hHeld => ?_)
      · with_reducible exact hH
      clear hK K hH
      try simp only [List.getElem_toArray, List.getElem_cons_succ, List.getElem_cons_zero]
      try simp only [Act.put, List.setIfInBounds_toArray, List.set_cons_zero, List.set_cons_succ]
      refine wpAnyH_take (i := 9) (v := ?_) rfl (by kernel_rfl) (by kernel_rfl) (by kernel_rfl) (fun _ _ _ h => h) (Or.inl ⟨by rfl, ?_⟩) (by assumption) ?_
      rotate_left
      · intro X hX
        go_simp
        try with_reducible rfl
      try simp only [List.getElem_toArray, List.getElem_cons_succ, List.getElem_cons_zero]
      try simp only [Act.put, List.setIfInBounds_toArray, List.set_cons_zero, List.set_cons_succ]
      refine wpAnyH_ready (rs := [10]) (by kernel_rfl) (by simp) (AllReadyH.cons rfl (fun K hK => ?_) AllReadyH.nil)
      · refine step_alloc_new rfl 24 rfl #[.int .i64 0, .int .i64 0, .slice none 0 0, .int .i64 0] alloc_rg ?_
        intro gF wn hF hgFb hb
        replace hgFb : w2.heap.size ≤ gF := Nat.le_trans hQ.size hgFb
        replace hQ := keepB hQ hb
        replace hN := keepE hb hN
        clear hb
        have hH := HS.out _ hQ
        refine hK.out _ _ ?_ (fun hHeld => ?_)
        · with_reducible exact hH
        clear hK K hH
        try simp only [List.getElem_toArray, List.getElem_cons_succ, List.getElem_cons_zero]
        try simp only [Act.put, List.setIfInBounds_toArray, List.set_cons_zero, List.set_cons_succ]
        refine wpAnyH_ready (rs := [11]) (by kernel_rfl) (by simp) (AllReadyH.cons rfl (fun K hK => ?_) AllReadyH.nil)
        · obtain ⟨wm, HST, hNew, hbl, hzz, hoth⟩ := rg_store (w2.heap.size) (p) (v) (A') (es.length) (c') ((m : Int)) hF rfl hgFb
          refine step_store_known rfl 24 _ _ rfl ⟨gF, 0, none⟩ (.agg #[.int .i64 (p), .int .i64 (v), .slice (A') (es.length) (c'), .int .i64 ((m : Int))]) (by simp [Act.eval]) (by simp [Act.eval]) HST.out ?_
          replace hQ := hQ.trans hbl
          replace hN := es_store hN hF (by simp) hoth hzz
          replace hF := hNew
          clear HST hNew hbl hzz hoth
          have hH := HS.out _ hQ
          refine hK.out _ _ ?_ (fun hHeld => ?_)
          · with_reducible exact hH
          clear hK K hH
          try simp only [List.getElem_toArray, List.getElem_cons_succ, List.getElem_cons_zero]
          try simp only [Act.put]
          refine wpAnyH_done (by kernel_rfl) ?_ _
          go_wp2_with fail
          go_meet
          case rel => exact ⟨gF, A', c', rfl, hgFb, Lib.hid hF, Lib.hid hN, Lib.hid hQ⟩
    · refine step_alloc_new rfl 24 rfl #[.int .i64 0, .int .i64 0, .slice none 0 0, .int .i64 0] alloc_rg ?_
      intro gF wn hF hgFb hb
      replace hgFb : w2.heap.size ≤ gF := Nat.le_trans hQ.size hgFb
      replace hQ := keepB hQ hb
      clear hb
      have hH := HS.out _ hQ
      refine hK.out _ _ ?_ (fun hHeld => ?_)
      · with_reducible exact hH
      clear hK K hH
      try simp only [List.getElem_toArray, List.getElem_cons_succ, List.getElem_cons_zero]
      try simp only [Act.put, List.setIfInBounds_toArray, List.set_cons_zero, List.set_cons_succ]
      refine wpAnyH_ready (rs := [6]) (by kernel_rfl) (by simp) (AllReadyH.cons rfl (fun K hK => ?_) AllReadyH.nil)
      · obtain ⟨A', c', wm, hr6, hO, hg6, -⟩ := run_append_es (base := 0) (World.ownsRow_nil _ 0 _ 6) (keepE hQ hE2) (Nat.zero_le _) (by omega)
        rw [Nat.zero_add] at hr6 hO
        have hN := own_es (es := es) (by simpa using hO) (by omega)
        have hb := below_grow hg6 (fun q _ e => by simp [Value.ownBlock] at e) (Nat.le_refl _)
        refine step_app_known rfl _ _ 22 22 rfl (.slice none 0 0) (.slice A es.length c) (by simp [Act.eval]) (by simp [Act.eval]) hr6 ?_
        replace hQ := keepB hQ hb
        replace hF := keepH hb hF
        clear hr6 hO hg6 hb
        have hH := HS.out _ hQ
        refine hK.out _ _ ?_ (fun hHeld => ?_)
        · with_reducible exact hH
        clear hK K hH
        try simp only [List.getElem_toArray, List.getElem_cons_succ, List.getElem_cons_zero]
        try simp only [Act.put, List.setIfInBounds_toArray, List.set_cons_zero, List.set_cons_succ]
        refine wpAnyH_take (i := 9) (v := ?_) rfl (by kernel_rfl) (by kernel_rfl) (by kernel_rfl) (fun _ _ _ h => h) (Or.inl ⟨by rfl, ?_⟩) (by assumption) ?_
        rotate_left
        · intro X hX
          go_simp
          try with_reducible rfl
        try simp only [List.getElem_toArray, List.getElem_cons_succ, List.getElem_cons_zero]
        try simp only [Act.put, List.setIfInBounds_toArray, List.set_cons_zero, List.set_cons_succ]
        refine wpAnyH_ready (rs := [11]) (by kernel_rfl) (by simp) (AllReadyH.cons rfl (fun K hK => ?_) AllReadyH.nil)
        · obtain ⟨wm, HST, hNew, hbl, hzz, hoth⟩ := rg_store (w2.heap.size) (p) (v) (A') (es.length) (c') ((m : Int)) hF rfl hgFb
          refine step_store_known rfl 24 _ _ rfl ⟨gF, 0, none⟩ (.agg #[.int .i64 (p), .int .i64 (v), .slice (A') (es.length) (c'), .int .i64 ((m : Int))]) (by simp [Act.eval]) (by simp [Act.eval]) HST.out ?_
          replace hQ := hQ.trans hbl
          replace hN := es_store hN hF (by simp) hoth hzz
          replace hF := hNew
          clear HST hNew hbl hzz hoth
          have hH := HS.out _ hQ
          refine hK.out _ _ ?_ (fun hHeld => ?_)
          · with_reducible exact hH
          clear hK K hH
          try simp only [List.getElem_toArray, List.getElem_cons_succ, List.getElem_cons_zero]
          try simp only [Act.put]
          refine wpAnyH_done (by kernel_rfl) ?_ _
          go_wp2_with fail
          go_meet
          case rel => exact ⟨gF, A', c', rfl, hgFb, Lib.hid hF, Lib.hid hN, Lib.hid hQ⟩
  case rest =>
  obtain ⟨g6, A6, c6, rfl, hgb, hF, hN, hkp⟩ := hcut
  obtain ⟨w4, he⟩ : ∃ W, W = wc := ⟨_, rfl⟩
  subst he
  replace hkp := hkp.out
  have h6 := hF.out
  have e6 := hN.out
  have hg4 := keepH hkp hg2
  have hr4 := keepH hkp hr2
  have hq4 := keepH hkp hq2
  have hE4 := keepE hkp hE2
  have hF4 := keepE hkp hF2
  have hW4 := keepB hW2 hkp
  have hz6 := lt_of_block h6
  clear HS hg2 hr2 hq2 hE2 hF2 hW2 hF hN
  obtain ⟨n0, n1, n2, n3⟩ := box4 hg4
  obtain ⟨m0, m1, m2, m3, m4, m5, m6, m7⟩ := box8 hr4
  obtain ⟨k0, k1, k2, k3⟩ := box4 h6
  have hAQ := appQ_3 (ep := ep) (vi := vi) (fr := fr) (le := le) (xs := xs) hmay.out
  dsimp only at hAQ
  by_cases q1 : le ≤ (m : Int)
  · rw [if_pos (.inl q1), hAQ0.out] at hAQ
    have hQ := Lib.hid hAQ
    have t1 : decide (le ≤ (m : Int)) = true := decide_eq_true q1
    clear hAQ hAQ0 hmay q1
    obtain ⟨w9, HST9, hq9, hbl9, -, -⟩ := rg_store w.heap.size 0 0 none 0 0 0 hq4 rfl (by omega)
    have hW9 := hW4.trans hbl9
    clear h6 e6 hg4 hr4 hq4 hE4 hF4 hW4 hkp hbl9
    go_wp2_with (first | (with_reducible refine wpList_store_known (by rfl) 24 _ _ (by rfl) ⟨w.heap.size + 1 + 1, 0, none⟩ _ (by with_unfolding_all rfl) (by with_unfolding_all rfl) HST9.out ?_))
    (try simp only [Exit.inBlock, Exit.then]); refine bodyPost_ret (results_row_tmp rfl _ _ (w.heap.size + 1 + 1) 24 #[.int .i64 0, .int .i64 0, .slice none 0 0, .int .i64 0] (0, 0) _ rfl hq9 Tryd.underlying24 rfl (by kernel_rfl)) rfl ?_
    rw [hQ.out]
    exact ⟨none, 0, rfl, es_nil _ _, hW9⟩
  have t1 : decide (le ≤ (m : Int)) = false := decide_eq_false q1
  by_cases q2 : (es.length : Int) < le
  · rw [if_pos (.inr q2), hAQ0.out] at hAQ
    have hQ := Lib.hid hAQ
    have t2 : decide ((es.length : Int) < le) = true := decide_eq_true q2
    clear hAQ hAQ0 hmay q1 q2
    obtain ⟨w9, HST9, hq9, hbl9, -, -⟩ := rg_store w.heap.size 0 0 none 0 0 0 hq4 rfl (by omega)
    have hW9 := hW4.trans hbl9
    clear h6 e6 hg4 hr4 hq4 hE4 hF4 hW4 hkp hbl9
    go_wp2_with (first | (with_reducible refine wpList_store_known (by rfl) 24 _ _ (by rfl) ⟨w.heap.size + 1 + 1, 0, none⟩ _ (by with_unfolding_all rfl) (by with_unfolding_all rfl) HST9.out ?_))
    (try simp only [Exit.inBlock, Exit.then]); refine bodyPost_ret (results_row_tmp rfl _ _ (w.heap.size + 1 + 1) 24 #[.int .i64 0, .int .i64 0, .slice none 0 0, .int .i64 0] (0, 0) _ rfl hq9 Tryd.underlying24 rfl (by kernel_rfl)) rfl ?_
    rw [hQ.out]
    exact ⟨none, 0, rfl, es_nil _ _, hW9⟩
  have t2 : decide ((es.length : Int) < le) = false := decide_eq_false q2
  rw [if_neg (by simp only [not_or]; exact ⟨q1, q2⟩), hAQ0.out] at hAQ
  have hQ := Lib.hid hAQ
  obtain ⟨w5, HST5, h5, hbl5, hzz5, hoth5⟩ := box_set (i := 3) (u := .int .i64 le) 3 (by kernel_rfl) rfl rfl h6 (by simp) w.heap.size (by omega)
  have h5' : w5.heap[g6]? = some (.cells #[.int .i64 p, .int .i64 v, .slice A6 es.length c6, .int .i64 le] 24 (0, 0)) := by rw [h5]; rfl
  have e5 := es_store e6 h6 (by simp) hoth5 hzz5
  have hq5 := (hoth5 (w.heap.size + 1 + 1) (by omega)).trans hq4
  have hW5 := hW4.trans hbl5
  obtain ⟨j0, j1, j2, j3⟩ := box4 h5'
  obtain ⟨w9, HST9, hq9, hbl9, hzz9, hoth9⟩ := rg_store w.heap.size p v A6 es.length c6 le hq5 rfl (by omega)
  have e9 := es_store e5 hq5 (by simp) hoth9 hzz9
  have hW9 := hW5.trans hbl9
  clear hAQ hAQ0 hmay q1 q2 h6 e6 hg4 hr4 hq4 hE4 hF4 hW4 hkp hbl9 h5 h5' e5 hq5 hW5 hbl5 hzz5 hoth5 hzz9 hoth9
  go_wp2_with (first | (with_reducible refine wpList_store_known (by rfl) 24 _ _ (by rfl) ⟨w.heap.size + 1 + 1, 0, none⟩ _ (by with_unfolding_all rfl) (by with_unfolding_all rfl) HST9.out ?_) | (with_reducible refine wpList_store_known (by rfl) 3 _ _ (by rfl) ⟨g6, 3, none⟩ (.int .i64 le) (by with_unfolding_all rfl) (by with_unfolding_all rfl) HST5.out ?_))
  (try simp only [Exit.inBlock, Exit.then]); refine bodyPost_ret (results_row_tmp rfl _ _ (w.heap.size + 1 + 1) 24 #[.int .i64 p, .int .i64 v, .slice A6 es.length c6, .int .i64 le] (0, 0) _ rfl hq9 Tryd.underlying24 rfl (by kernel_rfl)) rfl ?_
  rw [hQ.out]
  exact ⟨A6, c6, rfl, e9, hW9⟩
set_option maxRecDepth 100000 in
set_option maxHeartbeats 16000000 in
theorem rapply_0 (p v : Int) (m : Nat) (ki st ep vi fr le : Int) (es xs : List En) (A XA FA : Option Addr) (c xc fn fc : Nat) (w : World) (ha : EsB w.heap.size w (.slice A es.length c) es) (hx : EsB w.heap.size w (.slice XA xs.length xc) xs) (hmay : (Re.mk p v es m).may = true) (_ : xs.length ≤ 100000) (h1 : ¬ ki = 1) (h2 : ¬ ki = 2) (h3 : ¬ ki = 3) (h4 : ¬ ki = 4) : Calls Tryd.prog 12 #[.agg #[.int .i64 p, .int .i64 v, .slice A es.length c, .int .i64 (m : Int)], .agg #[.int .i64 ki, .int .i64 st, .int .i64 ep, .int .i64 vi, .int .i64 fr, .int .i64 le, .slice XA xs.length xc, .slice FA fn fc]] w (BehPost (Re.zero, false) w) := by
  obtain ⟨hl64, -, hml⟩ := may_len hmay
  dsimp only at hl64 hml
  replace hml : m ≤ es.length := by omega
  obtain ⟨w1, HX1⟩ : ∃ W : World, Hid (W = ((w.alloc (.cells #[.int .i64 p, .int .i64 v, .slice A es.length c, .int .i64 (m : Int)] 24)).alloc (.cells #[.int .i64 ki, .int .i64 st, .int .i64 ep, .int .i64 vi, .int .i64 fr, .int .i64 le, .slice XA xs.length xc, .slice FA fn fc] 27)).alloc (.cells #[.int .i64 0, .int .i64 0, .slice none 0 0, .int .i64 0] 24)) := ⟨_, Lib.hid rfl⟩
  obtain ⟨hz1, hb1, hg1, hr1, hq1⟩ := three_new HX1.out
  obtain ⟨n0, n1, n2, n3⟩ := box4 hg1
  have HC := Lib.hid (rregCheck_any p v m w1 (keepE hb1 ha))
  rw [hmay] at HC
  have hE1 := keepE hb1 ha
  have hF1 := keepE hb1 hx
  replace hmay := Lib.hid hmay
  clear ha hx
  go_enter Tryd.func12, Tryd.ntmps12
  go_wp2_with (rw [← HX1.out])
  refine (HC.out).mono ?_
  rintro e w2 ⟨rfl, hb2⟩
  have hg2 := keepH hb2 hg1
  have hr2 := keepH hb2 hr1
  have hq2 := keepH hb2 hq1
  have hE2 := keepE hb2 hE1
  have hF2 := keepE hb2 hF1
  have hW2 := keepB hb1 hb2
  have hz2 := lt_of_block hq2
  clear n0 n1 n2 n3 HC hg1 hr1 hq1 hb1 hE1 hF1 hb2
  have HS : Hid (∀ X : World, Below w2.heap.size w2 X → X.cell? ⟨w.heap.size, 0, none⟩ = some (.int .i64 p) ∧ X.cell? ⟨w.heap.size, 1, none⟩ = some (.int .i64 v) ∧ X.cell? ⟨w.heap.size, 2, none⟩ = some (.slice A es.length c) ∧ X.cell? ⟨w.heap.size, 3, none⟩ = some (.int .i64 (m : Int))) := Lib.hid fun X hX => box4 (keepH hX hg2)
  go_upto_region 3 with fail
  go_cut [6] (fun u wx => ∃ g A' c', u = .pointer (some ⟨g, 0, none⟩) ∧ w2.heap.size ≤ g ∧ Hid (wx.heap[g]? = some (.cells #[.int .i64 p, .int .i64 v, .slice A' es.length c', .int .i64 (m : Int)] 24 (0, 0))) ∧ Hid (EsB wx.heap.size wx (.slice A' es.length c') es) ∧ Hid (Below w2.heap.size w2 wx))
  case first =>
    have hQ : Below w2.heap.size w2 w2.drew := (Below.refl _ _).drew
    have hH := HS.out _ hQ
    clear hg2 hr2 hq2 hF2 hW2 hml hmay h1 h2 h3 h4
    refine wp_region_held_drew (S := fun X => X.cell? ⟨w.heap.size, 0, none⟩ = some (.int .i64 p) ∧ X.cell? ⟨w.heap.size, 1, none⟩ = some (.int .i64 v) ∧ X.cell? ⟨w.heap.size, 2, none⟩ = some (.slice A es.length c) ∧ X.cell? ⟨w.heap.size, 3, none⟩ = some (.int .i64 (m : Int))) (by kernel_rfl) hH (fun hHeld => ?_)
    clear hH
    refine wpAnyH_take (i := 0) (v := ?_) rfl (by kernel_rfl) (by kernel_rfl) (by kernel_rfl) (fun _ _ _ h => h) (Or.inl ⟨by rfl, ?_⟩) (by assumption) ?_
    rotate_left
    · intro X hX
      go_simp
      try with_reducible rfl
    try simp only [List.getElem_toArray, List.getElem_cons_zero]
    try simp only [Act.put, List.setIfInBounds_toArray, List.set_cons_zero, List.set_cons_succ]
    refine wpAnyH_take (i := 1) (v := .int .i64 p) rfl (by kernel_rfl) (by kernel_rfl) (by kernel_rfl) (fun _ _ _ h => h) (Or.inl ⟨by rfl, ?_⟩) (by assumption) ?_
    · intro X hX
      obtain ⟨a0, a1, a2, a3⟩ := hX
      go_simp
    try simp only [List.getElem_toArray, List.getElem_cons_succ, List.getElem_cons_zero]
    try simp only [Act.put, List.setIfInBounds_toArray, List.set_cons_zero, List.set_cons_succ]
    refine wpAnyH_take (i := 2) (v := ?_) rfl (by kernel_rfl) (by kernel_rfl) (by kernel_rfl) (fun _ _ _ h => h) (Or.inl ⟨by rfl, ?_⟩) (by assumption) ?_
    rotate_left
    · intro X hX
      go_simp
      try with_reducible rfl
    try simp only [List.getElem_toArray, List.getElem_cons_succ, List.getElem_cons_zero]
    try simp only [Act.put, List.setIfInBounds_toArray, List.set_cons_zero, List.set_cons_succ]
    refine wpAnyH_take (i := 3) (v := .int .i64 v) rfl (by kernel_rfl) (by kernel_rfl) (by kernel_rfl) (fun _ _ _ h => h) (Or.inl ⟨by rfl, ?_⟩) (by assumption) ?_
    · intro X hX
      obtain ⟨a0, a1, a2, a3⟩ := hX
      go_simp
    try simp only [List.getElem_toArray, List.getElem_cons_succ, List.getElem_cons_zero]
    try simp only [Act.put, List.setIfInBounds_toArray, List.set_cons_zero, List.set_cons_succ]
    refine wpAnyH_take (i := 4) (v := ?_) rfl (by kernel_rfl) (by kernel_rfl) (by kernel_rfl) (fun _ _ _ h => h) (Or.inl ⟨by rfl, ?_⟩) (by assumption) ?_
    rotate_left
    · intro X hX
      go_simp
      try with_reducible rfl
    try simp only [List.getElem_toArray, List.getElem_cons_succ, List.getElem_cons_zero]
    try simp only [Act.put, List.setIfInBounds_toArray, List.set_cons_zero, List.set_cons_succ]
    refine wpAnyH_take (i := 5) (v := .slice A es.length c) rfl (by kernel_rfl) (by kernel_rfl) (by kernel_rfl) (fun _ _ _ h => h) (Or.inl ⟨by rfl, ?_⟩) (by assumption) ?_
    · intro X hX
      obtain ⟨a0, a1, a2, a3⟩ := hX
      go_simp
    try simp only [List.getElem_toArray, List.getElem_cons_succ, List.getElem_cons_zero]
    try simp only [Act.put, List.setIfInBounds_toArray, List.set_cons_zero, List.set_cons_succ]
    refine wpAnyH_take (i := 7) (v := ?_) rfl (by kernel_rfl) (by kernel_rfl) (by kernel_rfl) (fun _ _ _ h => h) (Or.inl ⟨by rfl, ?_⟩) (by assumption) ?_
    rotate_left
    · intro X hX
      go_simp
      try with_reducible rfl
    try simp only [List.getElem_toArray, List.getElem_cons_succ, List.getElem_cons_zero]
    try simp only [Act.put, List.setIfInBounds_toArray, List.set_cons_zero, List.set_cons_succ]
    refine wpAnyH_take (i := 8) (v := .int .i64 (m : Int)) rfl (by kernel_rfl) (by kernel_rfl) (by kernel_rfl) (fun _ _ _ h => h) (Or.inl ⟨by rfl, ?_⟩) (by assumption) ?_
    · intro X hX
      obtain ⟨a0, a1, a2, a3⟩ := hX
      go_simp
    try simp only [List.getElem_toArray, List.getElem_cons_succ, List.getElem_cons_zero]
    try simp only [Act.put, List.setIfInBounds_toArray, List.set_cons_zero, List.set_cons_succ]
    refine wpAnyH_ready (rs := [6,10]) (by kernel_rfl) (by simp) (AllReadyH.cons rfl (fun K hK => ?_) (AllReadyH.cons rfl (fun K hK => ?_) AllReadyH.nil))
    · obtain ⟨A', c', wm, hr6, hO, hg6, -⟩ := run_append_es (base := 0) (World.ownsRow_nil _ 0 _ 6) (keepE hQ hE2) (Nat.zero_le _) (by omega)
      rw [Nat.zero_add] at hr6 hO
      have hN := own_es (es := es) (by simpa using hO) (by omega)
      have hb := below_grow hg6 (fun q _ e => by simp [Value.ownBlock] at e) (Nat.le_refl _)
      refine step_app_known rfl _ _ 22 22 rfl (.slice none 0 0) (.slice A es.length c) (by simp [Act.eval]) (by simp [Act.eval]) hr6 ?_
      replace hQ := keepB hQ hb
      clear hr6 hO hg6 hb
      have hH := HS.out _ hQ
      refine hK.out _ _ ?_ (fun hHeld => ?_)
      · with_reducible exact hH
      clear hK K hH
      try simp only [List.getElem_toArray, List.getElem_cons_succ, List.getElem_cons_zero]
      try simp only [Act.put, List.setIfInBounds_toArray, List.set_cons_zero, List.set_cons_succ]
      refine wpAnyH_take (i := 9) (v := ?_) rfl (by kernel_rfl) (by kernel_rfl) (by kernel_rfl) (fun _ _ _ h => h) (Or.inl ⟨by rfl, ?_⟩) (by assumption) ?_
      rotate_left
      · intro X hX
        go_simp
        try with_reducible rfl
      try simp only [List.getElem_toArray, List.getElem_cons_succ, List.getElem_cons_zero]
      try simp only [Act.put, List.setIfInBounds_toArray, List.set_cons_zero, List.set_cons_succ]
      refine wpAnyH_ready (rs := [10]) (by kernel_rfl) (by simp) (AllReadyH.cons rfl (fun K hK => ?_) AllReadyH.nil)
      · refine step_alloc_new rfl 24 rfl #[.int .i64 0, .int .i64 0, .slice none 0 0, .int .i64 0] alloc_rg ?_
        intro gF wn hF hgFb hb
        replace hgFb : w2.heap.size ≤ gF := Nat.le_trans hQ.size hgFb
        replace hQ := keepB hQ hb
        replace hN := keepE hb hN
        clear hb
        have hH := HS.out _ hQ
        refine hK.out _ _ ?_ (fun hHeld => ?_)
        · with_reducible exact hH
        clear hK K hH
        try simp only [List.getElem_toArray, List.getElem_cons_succ, List.getElem_cons_zero]
        try simp only [Act.put, List.setIfInBounds_toArray, List.set_cons_zero, List.set_cons_succ]
        refine wpAnyH_ready (rs := [11]) (by kernel_rfl) (by simp) (AllReadyH.cons rfl (fun K hK => ?_) AllReadyH.nil)
        · obtain ⟨wm, HST, hNew, hbl, hzz, hoth⟩ := rg_store (w2.heap.size) (p) (v) (A') (es.length) (c') ((m : Int)) hF rfl hgFb
          refine step_store_known rfl 24 _ _ rfl ⟨gF, 0, none⟩ (.agg #[.int .i64 (p), .int .i64 (v), .slice (A') (es.length) (c'), .int .i64 ((m : Int))]) (by simp [Act.eval]) (by simp [Act.eval]) HST.out ?_
          replace hQ := hQ.trans hbl
          replace hN := es_store hN hF (by simp) hoth hzz
          replace hF := hNew
          clear HST hNew hbl hzz hoth
          have hH := HS.out _ hQ
          refine hK.out _ _ ?_ (fun hHeld => ?_)
          · with_reducible exact hH
          clear hK K hH
          try simp only [List.getElem_toArray, List.getElem_cons_succ, List.getElem_cons_zero]
          try simp only [Act.put]
          refine wpAnyH_done (by kernel_rfl) ?_ _
          go_wp2_with fail
          go_meet
          case rel => exact ⟨gF, A', c', rfl, hgFb, Lib.hid hF, Lib.hid hN, Lib.hid hQ⟩
    · refine step_alloc_new rfl 24 rfl #[.int .i64 0, .int .i64 0, .slice none 0 0, .int .i64 0] alloc_rg ?_
      intro gF wn hF hgFb hb
      replace hgFb : w2.heap.size ≤ gF := Nat.le_trans hQ.size hgFb
      replace hQ := keepB hQ hb
      clear hb
      have hH := HS.out _ hQ
      refine hK.out _ _ ?_ (fun hHeld => ?_)
      · with_reducible exact hH
      clear hK K hH
      try simp only [List.getElem_toArray, List.getElem_cons_succ, List.getElem_cons_zero]
      try simp only [Act.put, List.setIfInBounds_toArray, List.set_cons_zero, List.set_cons_succ]
      refine wpAnyH_ready (rs := [6]) (by kernel_rfl) (by simp) (AllReadyH.cons rfl (fun K hK => ?_) AllReadyH.nil)
      · obtain ⟨A', c', wm, hr6, hO, hg6, -⟩ := run_append_es (base := 0) (World.ownsRow_nil _ 0 _ 6) (keepE hQ hE2) (Nat.zero_le _) (by omega)
        rw [Nat.zero_add] at hr6 hO
        have hN := own_es (es := es) (by simpa using hO) (by omega)
        have hb := below_grow hg6 (fun q _ e => by simp [Value.ownBlock] at e) (Nat.le_refl _)
        refine step_app_known rfl _ _ 22 22 rfl (.slice none 0 0) (.slice A es.length c) (by simp [Act.eval]) (by simp [Act.eval]) hr6 ?_
        replace hQ := keepB hQ hb
        replace hF := keepH hb hF
        clear hr6 hO hg6 hb
        have hH := HS.out _ hQ
        refine hK.out _ _ ?_ (fun hHeld => ?_)
        · with_reducible exact hH
        clear hK K hH
        try simp only [List.getElem_toArray, List.getElem_cons_succ, List.getElem_cons_zero]
        try simp only [Act.put, List.setIfInBounds_toArray, List.set_cons_zero, List.set_cons_succ]
        refine wpAnyH_take (i := 9) (v := ?_) rfl (by kernel_rfl) (by kernel_rfl) (by kernel_rfl) (fun _ _ _ h => h) (Or.inl ⟨by rfl, ?_⟩) (by assumption) ?_
        rotate_left
        · intro X hX
          go_simp
          try with_reducible rfl
        try simp only [List.getElem_toArray, List.getElem_cons_succ, List.getElem_cons_zero]
        try simp only [Act.put, List.setIfInBounds_toArray, List.set_cons_zero, List.set_cons_succ]
        refine wpAnyH_ready (rs := [11]) (by kernel_rfl) (by simp) (AllReadyH.cons rfl (fun K hK => ?_) AllReadyH.nil)
        · obtain ⟨wm, HST, hNew, hbl, hzz, hoth⟩ := rg_store (w2.heap.size) (p) (v) (A') (es.length) (c') ((m : Int)) hF rfl hgFb
          refine step_store_known rfl 24 _ _ rfl ⟨gF, 0, none⟩ (.agg #[.int .i64 (p), .int .i64 (v), .slice (A') (es.length) (c'), .int .i64 ((m : Int))]) (by simp [Act.eval]) (by simp [Act.eval]) HST.out ?_
          replace hQ := hQ.trans hbl
          replace hN := es_store hN hF (by simp) hoth hzz
          replace hF := hNew
          clear HST hNew hbl hzz hoth
          have hH := HS.out _ hQ
          refine hK.out _ _ ?_ (fun hHeld => ?_)
          · with_reducible exact hH
          clear hK K hH
          try simp only [List.getElem_toArray, List.getElem_cons_succ, List.getElem_cons_zero]
          try simp only [Act.put]
          refine wpAnyH_done (by kernel_rfl) ?_ _
          go_wp2_with fail
          go_meet
          case rel => exact ⟨gF, A', c', rfl, hgFb, Lib.hid hF, Lib.hid hN, Lib.hid hQ⟩
  case rest =>
  obtain ⟨g6, A6, c6, rfl, hgb, hF, hN, hkp⟩ := hcut
  obtain ⟨w4, he⟩ : ∃ W, W = wc := ⟨_, rfl⟩
  subst he
  replace hkp := hkp.out
  have h6 := hF.out
  have e6 := hN.out
  have hg4 := keepH hkp hg2
  have hr4 := keepH hkp hr2
  have hq4 := keepH hkp hq2
  have hE4 := keepE hkp hE2
  have hF4 := keepE hkp hF2
  have hW4 := keepB hW2 hkp
  have hz6 := lt_of_block h6
  clear HS hg2 hr2 hq2 hE2 hF2 hW2 hF hN
  obtain ⟨n0, n1, n2, n3⟩ := box4 hg4
  obtain ⟨m0, m1, m2, m3, m4, m5, m6, m7⟩ := box8 hr4
  obtain ⟨k0, k1, k2, k3⟩ := box4 h6
  have u1 : (ki == 1) = false := by simp [h1]
  have u2 : (ki == 2) = false := by simp [h2]
  have u3 : (ki == 3) = false := by simp [h3]
  have u4 : (ki == 4) = false := by simp [h4]
  clear hmay h1 h2 h3 h4
  obtain ⟨w9, HST9, hq9, hbl9, -, -⟩ := rg_store w.heap.size 0 0 none 0 0 0 hq4 rfl (by omega)
  have hW9 := hW4.trans hbl9
  clear h6 e6 hg4 hr4 hq4 hE4 hF4 hW4 hkp hbl9
  go_wp2_with (first | (with_reducible refine wpList_store_known (by rfl) 24 _ _ (by rfl) ⟨w.heap.size + 1 + 1, 0, none⟩ _ (by with_unfolding_all rfl) (by with_unfolding_all rfl) HST9.out ?_))
  (try simp only [Exit.inBlock, Exit.then]); refine bodyPost_ret (results_row_tmp rfl _ _ (w.heap.size + 1 + 1) 24 #[.int .i64 0, .int .i64 0, .slice none 0 0, .int .i64 0] (0, 0) _ rfl hq9 Tryd.underlying24 rfl (by kernel_rfl)) rfl ?_
  exact ⟨none, 0, rfl, es_nil _ _, hW9⟩
set_option maxRecDepth 100000 in
set_option maxHeartbeats 16000000 in
theorem rapply_4 (p v : Int) (m : Nat) (st ep vi fr le : Int) (es xs : List En) (A XA FA : Option Addr) (c xc fn fc : Nat) (w : World) (ha : EsB w.heap.size w (.slice A es.length c) es) (hx : EsB w.heap.size w (.slice XA xs.length xc) xs) (hmay : (Re.mk p v es m).may = true) (hlx : xs.length ≤ 100000) (Q : Re × Bool) (hAQ0 : Hid (appQ ⟨p, v, es, m⟩ ⟨4, ep, vi, fr, le, xs⟩ = Q)) : Calls Tryd.prog 12 #[.agg #[.int .i64 p, .int .i64 v, .slice A es.length c, .int .i64 (m : Int)], .agg #[.int .i64 4, .int .i64 st, .int .i64 ep, .int .i64 vi, .int .i64 fr, .int .i64 le, .slice XA xs.length xc, .slice FA fn fc]] w (BehPost Q w) := by
  obtain ⟨hl64, -, hml⟩ := may_len hmay
  dsimp only at hl64 hml
  replace hml : m ≤ es.length := by omega
  obtain ⟨w1, HX1⟩ : ∃ W : World, Hid (W = ((w.alloc (.cells #[.int .i64 p, .int .i64 v, .slice A es.length c, .int .i64 (m : Int)] 24)).alloc (.cells #[.int .i64 4, .int .i64 st, .int .i64 ep, .int .i64 vi, .int .i64 fr, .int .i64 le, .slice XA xs.length xc, .slice FA fn fc] 27)).alloc (.cells #[.int .i64 0, .int .i64 0, .slice none 0 0, .int .i64 0] 24)) := ⟨_, Lib.hid rfl⟩
  obtain ⟨hz1, hb1, hg1, hr1, hq1⟩ := three_new HX1.out
  obtain ⟨n0, n1, n2, n3⟩ := box4 hg1
  have HC := Lib.hid (rregCheck_any p v m w1 (keepE hb1 ha))
  rw [hmay] at HC
  have hE1 := keepE hb1 ha
  have hF1 := keepE hb1 hx
  replace hmay := Lib.hid hmay
  clear ha hx
  go_enter Tryd.func12, Tryd.ntmps12
  go_wp2_with (rw [← HX1.out])
  refine (HC.out).mono ?_
  rintro e w2 ⟨rfl, hb2⟩
  have hg2 := keepH hb2 hg1
  have hr2 := keepH hb2 hr1
  have hq2 := keepH hb2 hq1
  have hE2 := keepE hb2 hE1
  have hF2 := keepE hb2 hF1
  have hW2 := keepB hb1 hb2
  have hz2 := lt_of_block hq2
  clear n0 n1 n2 n3 HC hg1 hr1 hq1 hb1 hE1 hF1 hb2
  have HS : Hid (∀ X : World, Below w2.heap.size w2 X → X.cell? ⟨w.heap.size, 0, none⟩ = some (.int .i64 p) ∧ X.cell? ⟨w.heap.size, 1, none⟩ = some (.int .i64 v) ∧ X.cell? ⟨w.heap.size, 2, none⟩ = some (.slice A es.length c) ∧ X.cell? ⟨w.heap.size, 3, none⟩ = some (.int .i64 (m : Int))) := Lib.hid fun X hX => box4 (keepH hX hg2)
  go_upto_region 3 with fail
  go_cut [6] (fun u wx => ∃ g A' c', u = .pointer (some ⟨g, 0, none⟩) ∧ w2.heap.size ≤ g ∧ Hid (wx.heap[g]? = some (.cells #[.int .i64 p, .int .i64 v, .slice A' es.length c', .int .i64 (m : Int)] 24 (0, 0))) ∧ Hid (EsB wx.heap.size wx (.slice A' es.length c') es) ∧ Hid (Below w2.heap.size w2 wx))
  case first =>
    have hQ : Below w2.heap.size w2 w2.drew := (Below.refl _ _).drew
    have hH := HS.out _ hQ
    clear hg2 hr2 hq2 hF2 hW2 hml hmay hAQ0
    refine wp_region_held_drew (S := fun X => X.cell? ⟨w.heap.size, 0, none⟩ = some (.int .i64 p) ∧ X.cell? ⟨w.heap.size, 1, none⟩ = some (.int .i64 v) ∧ X.cell? ⟨w.heap.size, 2, none⟩ = some (.slice A es.length c) ∧ X.cell? ⟨w.heap.size, 3, none⟩ = some (.int .i64 (m : Int))) (by kernel_rfl) hH (fun hHeld => ?_)
    clear hH
    refine wpAnyH_take (i := 0) (v := ?_) rfl (by kernel_rfl) (by kernel_rfl) (by kernel_rfl) (fun _ _ _ h => h) (Or.inl ⟨by rfl, ?_⟩) (by assumption) ?_
    rotate_left
    · intro X hX
      go_simp
      try with_reducible rfl
    try simp only [List.getElem_toArray, List.getElem_cons_zero]
    try simp only [Act.put, List.setIfInBounds_toArray, List.set_cons_zero, List.set_cons_succ]
    refine wpAnyH_take (i := 1) (v := .int .i64 p) rfl (by kernel_rfl) (by kernel_rfl) (by kernel_rfl) (fun _ _ _ h => h) (Or.inl ⟨by rfl, ?_⟩) (by assumption) ?_
    · intro X hX
      obtain ⟨a0, a1, a2, a3⟩ := hX
      go_simp
    try simp only [List.getElem_toArray, List.getElem_cons_succ, List.getElem_cons_zero]
    try simp only [Act.put, List.setIfInBounds_toArray, List.set_cons_zero, List.set_cons_succ]
    refine wpAnyH_take (i := 2) (v := ?_) rfl (by kernel_rfl) (by kernel_rfl) (by kernel_rfl) (fun _ _ _ h => h) (Or.inl ⟨by rfl, ?_⟩) (by assumption) ?_
    rotate_left
    · intro X hX
      go_simp
      try with_reducible rfl
    try simp only [List.getElem_toArray, List.getElem_cons_succ, List.getElem_cons_zero]
    try simp only [Act.put, List.setIfInBounds_toArray, List.set_cons_zero, List.set_cons_succ]
    refine wpAnyH_take (i := 3) (v := .int .i64 v) rfl (by kernel_rfl) (by kernel_rfl) (by kernel_rfl) (fun _ _ _ h => h) (Or.inl ⟨by rfl, ?_⟩) (by assumption) ?_
    · intro X hX
      obtain ⟨a0, a1, a2, a3⟩ := hX
      go_simp
    try simp only [List.getElem_toArray, List.getElem_cons_succ, List.getElem_cons_zero]
    try simp only [Act.put, List.setIfInBounds_toArray, List.set_cons_zero, List.set_cons_succ]
    refine wpAnyH_take (i := 4) (v := ?_) rfl (by kernel_rfl) (by kernel_rfl) (by kernel_rfl) (fun _ _ _ h => h) (Or.inl ⟨by rfl, ?_⟩) (by assumption) ?_
    rotate_left
    · intro X hX
      go_simp
      try with_reducible rfl
    try simp only [List.getElem_toArray, List.getElem_cons_succ, List.getElem_cons_zero]
    try simp only [Act.put, List.setIfInBounds_toArray, List.set_cons_zero, List.set_cons_succ]
    refine wpAnyH_take (i := 5) (v := .slice A es.length c) rfl (by kernel_rfl) (by kernel_rfl) (by kernel_rfl) (fun _ _ _ h => h) (Or.inl ⟨by rfl, ?_⟩) (by assumption) ?_
    · intro X hX
      obtain ⟨a0, a1, a2, a3⟩ := hX
      go_simp
    try simp only [List.getElem_toArray, List.getElem_cons_succ, List.getElem_cons_zero]
    try simp only [Act.put, List.setIfInBounds_toArray, List.set_cons_zero, List.set_cons_succ]
    refine wpAnyH_take (i := 7) (v := ?_) rfl (by kernel_rfl) (by kernel_rfl) (by kernel_rfl) (fun _ _ _ h => h) (Or.inl ⟨by rfl, ?_⟩) (by assumption) ?_
    rotate_left
    · intro X hX
      go_simp
      try with_reducible rfl
    try simp only [List.getElem_toArray, List.getElem_cons_succ, List.getElem_cons_zero]
    try simp only [Act.put, List.setIfInBounds_toArray, List.set_cons_zero, List.set_cons_succ]
    refine wpAnyH_take (i := 8) (v := .int .i64 (m : Int)) rfl (by kernel_rfl) (by kernel_rfl) (by kernel_rfl) (fun _ _ _ h => h) (Or.inl ⟨by rfl, ?_⟩) (by assumption) ?_
    · intro X hX
      obtain ⟨a0, a1, a2, a3⟩ := hX
      go_simp
    try simp only [List.getElem_toArray, List.getElem_cons_succ, List.getElem_cons_zero]
    try simp only [Act.put, List.setIfInBounds_toArray, List.set_cons_zero, List.set_cons_succ]
    refine wpAnyH_ready (rs := [6,10]) (by kernel_rfl) (by simp) (AllReadyH.cons rfl (fun K hK => ?_) (AllReadyH.cons rfl (fun K hK => ?_) AllReadyH.nil))
    · obtain ⟨A', c', wm, hr6, hO, hg6, -⟩ := run_append_es (base := 0) (World.ownsRow_nil _ 0 _ 6) (keepE hQ hE2) (Nat.zero_le _) (by omega)
      rw [Nat.zero_add] at hr6 hO
      have hN := own_es (es := es) (by simpa using hO) (by omega)
      have hb := below_grow hg6 (fun q _ e => by simp [Value.ownBlock] at e) (Nat.le_refl _)
      refine step_app_known rfl _ _ 22 22 rfl (.slice none 0 0) (.slice A es.length c) (by simp [Act.eval]) (by simp [Act.eval]) hr6 ?_
      replace hQ := keepB hQ hb
      clear hr6 hO hg6 hb
      have hH := HS.out _ hQ
      refine hK.out _ _ ?_ (fun hHeld => ?_)
      · with_reducible exact hH
      clear hK K hH
      try simp only [List.getElem_toArray, List.getElem_cons_succ, List.getElem_cons_zero]
      try simp only [Act.put, List.setIfInBounds_toArray, List.set_cons_zero, List.set_cons_succ]
      refine wpAnyH_take (i := 9) (v := ?_) rfl (by kernel_rfl) (by kernel_rfl) (by kernel_rfl) (fun _ _ _ h => h) (Or.inl ⟨by rfl, ?_⟩) (by assumption) ?_
      rotate_left
      · intro X hX
        go_simp
        try with_reducible rfl
      try simp only [List.getElem_toArray, List.getElem_cons_succ, List.getElem_cons_zero]
      try simp only [Act.put, List.setIfInBounds_toArray, List.set_cons_zero, List.set_cons_succ]
      refine wpAnyH_ready (rs := [10]) (by kernel_rfl) (by simp) (AllReadyH.cons rfl (fun K hK => ?_) AllReadyH.nil)
      · refine step_alloc_new rfl 24 rfl #[.int .i64 0, .int .i64 0, .slice none 0 0, .int .i64 0] alloc_rg ?_
        intro gF wn hF hgFb hb
        replace hgFb : w2.heap.size ≤ gF := Nat.le_trans hQ.size hgFb
        replace hQ := keepB hQ hb
        replace hN := keepE hb hN
        clear hb
        have hH := HS.out _ hQ
        refine hK.out _ _ ?_ (fun hHeld => ?_)
        · with_reducible exact hH
        clear hK K hH
        try simp only [List.getElem_toArray, List.getElem_cons_succ, List.getElem_cons_zero]
        try simp only [Act.put, List.setIfInBounds_toArray, List.set_cons_zero, List.set_cons_succ]
        refine wpAnyH_ready (rs := [11]) (by kernel_rfl) (by simp) (AllReadyH.cons rfl (fun K hK => ?_) AllReadyH.nil)
        · obtain ⟨wm, HST, hNew, hbl, hzz, hoth⟩ := rg_store (w2.heap.size) (p) (v) (A') (es.length) (c') ((m : Int)) hF rfl hgFb
          refine step_store_known rfl 24 _ _ rfl ⟨gF, 0, none⟩ (.agg #[.int .i64 (p), .int .i64 (v), .slice (A') (es.length) (c'), .int .i64 ((m : Int))]) (by simp [Act.eval]) (by simp [Act.eval]) HST.out ?_
          replace hQ := hQ.trans hbl
          replace hN := es_store hN hF (by simp) hoth hzz
          replace hF := hNew
          clear HST hNew hbl hzz hoth
          have hH := HS.out _ hQ
          refine hK.out _ _ ?_ (fun hHeld => ?_)
          · with_reducible exact hH
          clear hK K hH
          try simp only [List.getElem_toArray, List.getElem_cons_succ, List.getElem_cons_zero]
          try simp only [Act.put]
          refine wpAnyH_done (by kernel_rfl) ?_ _
          go_wp2_with fail
          go_meet
          case rel => exact ⟨gF, A', c', rfl, hgFb, Lib.hid hF, Lib.hid hN, Lib.hid hQ⟩
    · refine step_alloc_new rfl 24 rfl #[.int .i64 0, .int .i64 0, .slice none 0 0, .int .i64 0] alloc_rg ?_
      intro gF wn hF hgFb hb
      replace hgFb : w2.heap.size ≤ gF := Nat.le_trans hQ.size hgFb
      replace hQ := keepB hQ hb
      clear hb
      have hH := HS.out _ hQ
      refine hK.out _ _ ?_ (fun hHeld => ?_)
      · with_reducible exact hH
      clear hK K hH
      try simp only [List.getElem_toArray, List.getElem_cons_succ, List.getElem_cons_zero]
      try simp only [Act.put, List.setIfInBounds_toArray, List.set_cons_zero, List.set_cons_succ]
      refine wpAnyH_ready (rs := [6]) (by kernel_rfl) (by simp) (AllReadyH.cons rfl (fun K hK => ?_) AllReadyH.nil)
      · obtain ⟨A', c', wm, hr6, hO, hg6, -⟩ := run_append_es (base := 0) (World.ownsRow_nil _ 0 _ 6) (keepE hQ hE2) (Nat.zero_le _) (by omega)
        rw [Nat.zero_add] at hr6 hO
        have hN := own_es (es := es) (by simpa using hO) (by omega)
        have hb := below_grow hg6 (fun q _ e => by simp [Value.ownBlock] at e) (Nat.le_refl _)
        refine step_app_known rfl _ _ 22 22 rfl (.slice none 0 0) (.slice A es.length c) (by simp [Act.eval]) (by simp [Act.eval]) hr6 ?_
        replace hQ := keepB hQ hb
        replace hF := keepH hb hF
        clear hr6 hO hg6 hb
        have hH := HS.out _ hQ
        refine hK.out _ _ ?_ (fun hHeld => ?_)
        · with_reducible exact hH
        clear hK K hH
        try simp only [List.getElem_toArray, List.getElem_cons_succ, List.getElem_cons_zero]
        try simp only [Act.put, List.setIfInBounds_toArray, List.set_cons_zero, List.set_cons_succ]
        refine wpAnyH_take (i := 9) (v := ?_) rfl (by kernel_rfl) (by kernel_rfl) (by kernel_rfl) (fun _ _ _ h => h) (Or.inl ⟨by rfl, ?_⟩) (by assumption) ?_
        rotate_left
        · intro X hX
          go_simp
          try with_reducible rfl
        try simp only [List.getElem_toArray, List.getElem_cons_succ, List.getElem_cons_zero]
        try simp only [Act.put, List.setIfInBounds_toArray, List.set_cons_zero, List.set_cons_succ]
        refine wpAnyH_ready (rs := [11]) (by kernel_rfl) (by simp) (AllReadyH.cons rfl (fun K hK => ?_) AllReadyH.nil)
        · obtain ⟨wm, HST, hNew, hbl, hzz, hoth⟩ := rg_store (w2.heap.size) (p) (v) (A') (es.length) (c') ((m : Int)) hF rfl hgFb
          refine step_store_known rfl 24 _ _ rfl ⟨gF, 0, none⟩ (.agg #[.int .i64 (p), .int .i64 (v), .slice (A') (es.length) (c'), .int .i64 ((m : Int))]) (by simp [Act.eval]) (by simp [Act.eval]) HST.out ?_
          replace hQ := hQ.trans hbl
          replace hN := es_store hN hF (by simp) hoth hzz
          replace hF := hNew
          clear HST hNew hbl hzz hoth
          have hH := HS.out _ hQ
          refine hK.out _ _ ?_ (fun hHeld => ?_)
          · with_reducible exact hH
          clear hK K hH
          try simp only [List.getElem_toArray, List.getElem_cons_succ, List.getElem_cons_zero]
          try simp only [Act.put]
          refine wpAnyH_done (by kernel_rfl) ?_ _
          go_wp2_with fail
          go_meet
          case rel => exact ⟨gF, A', c', rfl, hgFb, Lib.hid hF, Lib.hid hN, Lib.hid hQ⟩
  case rest =>
  obtain ⟨g6, A6, c6, rfl, hgb, hF, hN, hkp⟩ := hcut
  obtain ⟨w4, he⟩ : ∃ W, W = wc := ⟨_, rfl⟩
  subst he
  replace hkp := hkp.out
  have h6 := hF.out
  have e6 := hN.out
  have hg4 := keepH hkp hg2
  have hr4 := keepH hkp hr2
  have hq4 := keepH hkp hq2
  have hE4 := keepE hkp hE2
  have hF4 := keepE hkp hF2
  have hW4 := keepB hW2 hkp
  have hz6 := lt_of_block h6
  clear HS hg2 hr2 hq2 hE2 hF2 hW2 hF hN
  obtain ⟨n0, n1, n2, n3⟩ := box4 hg4
  obtain ⟨m0, m1, m2, m3, m4, m5, m6, m7⟩ := box8 hr4
  obtain ⟨k0, k1, k2, k3⟩ := box4 h6
  have hAQ := Lib.hid (appQ_4 (ep := ep) (vi := vi) (fr := fr) (le := le) (xs := xs) hmay.out)
  dsimp only at hAQ
  have HS : Hid (∀ X : World, X.heap[w.heap.size + 1]? = w4.heap[w.heap.size + 1]? → X.cell? ⟨w.heap.size + 1, 2, none⟩ = some (.int .i64 ep) ∧ X.cell? ⟨w.heap.size + 1, 3, none⟩ = some (.int .i64 vi) ∧ X.cell? ⟨w.heap.size + 1, 6, none⟩ = some (.slice XA xs.length xc) ∧ X.cell? ⟨w.heap.size + 1, 5, none⟩ = some (.int .i64 le)) := Lib.hid fun X h => by
    have h' := box8 (h.trans hr4)
    exact ⟨h'.2.2.1, h'.2.2.2.1, h'.2.2.2.2.2.2.1, h'.2.2.2.2.2.1⟩
  go_upto_region 30 with fail
  go_cut [] (fun wx => ∃ A' c', Hid (wx.heap[g6]? = some (.cells #[.int .i64 ep, .int .i64 vi, .slice A' xs.length c', .int .i64 le] 24 (0, 0))) ∧ Hid (EsB wx.heap.size wx (.slice A' xs.length c') xs) ∧ Hid (Below w2.heap.size w4 wx))
  case first =>
    have hQ : Below w4.heap.size w4 w4.drew := (Below.refl _ _).drew
    have hV : Below w2.heap.size w4 w4.drew := (Below.refl _ _).drew
    have hg : w4.drew.heap[w.heap.size + 1]? = w4.heap[w.heap.size + 1]? := rfl
    have h : w4.drew.heap[g6]? = _ := h6
    have hkps : w2.heap.size ≤ w4.heap.size := hkp.size
    have hF := hF4
    replace hF : EsB w4.drew.heap.size w4.drew _ _ := hF
    have hH := HS.out _ hg
    clear n0 n1 n2 n3 m0 m1 m2 m3 m4 m5 m6 m7 k0 k1 k2 k3 h6 e6 hg4 hr4 hq4 hE4 hF4 hW4 hkp hmay hAQ hAQ0 hQ
    refine wp_region_held_drew (S := fun X => X.cell? ⟨w.heap.size + 1, 2, none⟩ = some (.int .i64 ep) ∧ X.cell? ⟨w.heap.size + 1, 3, none⟩ = some (.int .i64 vi) ∧ X.cell? ⟨w.heap.size + 1, 6, none⟩ = some (.slice XA xs.length xc) ∧ X.cell? ⟨w.heap.size + 1, 5, none⟩ = some (.int .i64 le)) (by kernel_rfl) hH (fun hHeld => ?_)
    clear hH
    refine wpAnyH_take (i := 0) (v := ?_) rfl (by kernel_rfl) (by kernel_rfl) (by kernel_rfl) (fun _ _ _ h => h) (Or.inl ⟨by rfl, ?_⟩) (by assumption) ?_
    rotate_left
    · intro X hX
      go_simp
      try with_reducible rfl
    try simp only [List.getElem_toArray, List.getElem_cons_zero]
    try simp only [Act.put, List.setIfInBounds_toArray, List.set_cons_zero, List.set_cons_succ]
    refine wpAnyH_take (i := 1) (v := .int .i64 ep) rfl (by kernel_rfl) (by kernel_rfl) (by kernel_rfl) (fun _ _ _ h => h) (Or.inl ⟨by rfl, ?_⟩) (by assumption) ?_
    · intro X hX
      obtain ⟨a0, a1, a2, a3⟩ := hX
      go_simp
    try simp only [List.getElem_toArray, List.getElem_cons_succ, List.getElem_cons_zero]
    try simp only [Act.put, List.setIfInBounds_toArray, List.set_cons_zero, List.set_cons_succ]
    refine wpAnyH_take (i := 2) (v := ?_) rfl (by kernel_rfl) (by kernel_rfl) (by kernel_rfl) (fun _ _ _ h => h) (Or.inl ⟨by rfl, ?_⟩) (by assumption) ?_
    rotate_left
    · intro X hX
      go_simp
      try with_reducible rfl
    try simp only [List.getElem_toArray, List.getElem_cons_succ, List.getElem_cons_zero]
    try simp only [Act.put, List.setIfInBounds_toArray, List.set_cons_zero, List.set_cons_succ]
    refine wpAnyH_take (i := 3) (v := .int .i64 vi) rfl (by kernel_rfl) (by kernel_rfl) (by kernel_rfl) (fun _ _ _ h => h) (Or.inl ⟨by rfl, ?_⟩) (by assumption) ?_
    · intro X hX
      obtain ⟨a0, a1, a2, a3⟩ := hX
      go_simp
    try simp only [List.getElem_toArray, List.getElem_cons_succ, List.getElem_cons_zero]
    try simp only [Act.put, List.setIfInBounds_toArray, List.set_cons_zero, List.set_cons_succ]
    refine wpAnyH_take (i := 4) (v := ?_) rfl (by kernel_rfl) (by kernel_rfl) (by kernel_rfl) (fun _ _ _ h => h) (Or.inl ⟨by rfl, ?_⟩) (by assumption) ?_
    rotate_left
    · intro X hX
      go_simp
      try with_reducible rfl
    try simp only [List.getElem_toArray, List.getElem_cons_succ, List.getElem_cons_zero]
    try simp only [Act.put, List.setIfInBounds_toArray, List.set_cons_zero, List.set_cons_succ]
    refine wpAnyH_take (i := 5) (v := .slice XA xs.length xc) rfl (by kernel_rfl) (by kernel_rfl) (by kernel_rfl) (fun _ _ _ h => h) (Or.inl ⟨by rfl, ?_⟩) (by assumption) ?_
    · intro X hX
      obtain ⟨a0, a1, a2, a3⟩ := hX
      go_simp
    try simp only [List.getElem_toArray, List.getElem_cons_succ, List.getElem_cons_zero]
    try simp only [Act.put, List.setIfInBounds_toArray, List.set_cons_zero, List.set_cons_succ]
    refine wpAnyH_take (i := 7) (v := ?_) rfl (by kernel_rfl) (by kernel_rfl) (by kernel_rfl) (fun _ _ _ h => h) (Or.inl ⟨by rfl, ?_⟩) (by assumption) ?_
    rotate_left
    · intro X hX
      go_simp
      try with_reducible rfl
    try simp only [List.getElem_toArray, List.getElem_cons_succ, List.getElem_cons_zero]
    try simp only [Act.put, List.setIfInBounds_toArray, List.set_cons_zero, List.set_cons_succ]
    refine wpAnyH_take (i := 8) (v := .int .i64 le) rfl (by kernel_rfl) (by kernel_rfl) (by kernel_rfl) (fun _ _ _ h => h) (Or.inl ⟨by rfl, ?_⟩) (by assumption) ?_
    · intro X hX
      obtain ⟨a0, a1, a2, a3⟩ := hX
      go_simp
    try simp only [List.getElem_toArray, List.getElem_cons_succ, List.getElem_cons_zero]
    try simp only [Act.put, List.setIfInBounds_toArray, List.set_cons_zero, List.set_cons_succ]
    refine wpAnyH_ready (rs := [6]) (by kernel_rfl) (by simp) (AllReadyH.cons rfl (fun K hK => ?_) AllReadyH.nil)
    · obtain ⟨A', c', wm, hr6, hO, hg6, -⟩ := run_append_es (base := 0) (World.ownsRow_nil _ 0 _ 6) hF (Nat.zero_le _) (by omega)
      rw [Nat.zero_add] at hr6 hO
      have hN := own_es (es := xs) (by simpa using hO) (by omega)
      have hb := below_grow hg6 (fun q _ e => by simp [Value.ownBlock] at e) (Nat.le_refl _)
      refine step_app_known rfl _ _ 22 22 rfl (.slice none 0 0) (.slice XA xs.length xc) (by simp [Act.eval]) (by simp [Act.eval]) hr6 ?_
      replace hg := (hb.block _ (by show w.heap.size + 1 < w4.heap.size; omega)).trans hg
      replace h := keepH hb h
      replace hV := hV.trans (hb.mono (Nat.le_trans hkps hV.size))
      clear hr6 hO hg6 hb hF
      have hH := HS.out _ hg
      refine hK.out _ _ ?_ (fun hHeld => ?_)
      · with_reducible exact hH
      clear hK K hH
      try simp only [List.getElem_toArray, List.getElem_cons_succ, List.getElem_cons_zero]
      try simp only [Act.put, List.setIfInBounds_toArray, List.set_cons_zero, List.set_cons_succ]
      refine wpAnyH_take (i := 9) (v := ?_) rfl (by kernel_rfl) (by kernel_rfl) (by kernel_rfl) (fun _ _ _ h => h) (Or.inl ⟨by rfl, ?_⟩) (by assumption) ?_
      rotate_left
      · intro X hX
        go_simp
        try with_reducible rfl
      try simp only [List.getElem_toArray, List.getElem_cons_succ, List.getElem_cons_zero]
      try simp only [Act.put, List.setIfInBounds_toArray, List.set_cons_zero, List.set_cons_succ]
      refine wpAnyH_ready (rs := [10]) (by kernel_rfl) (by simp) (AllReadyH.cons rfl (fun K hK => ?_) AllReadyH.nil)
      · obtain ⟨wm, HST, hNew, hbl, hzz, hoth⟩ := rg_store (w2.heap.size) (ep) (vi) (A') (xs.length) (c') (le) h rfl hgb
        refine step_store_known rfl 24 _ _ rfl ⟨g6, 0, none⟩ (.agg #[.int .i64 (ep), .int .i64 (vi), .slice (A') (xs.length) (c'), .int .i64 (le)]) (by simp [Act.eval]) (by simp [Act.eval]) HST.out ?_
        replace hg := (hoth _ (by omega)).trans hg
        replace hV := hV.trans hbl
        replace hN := es_store hN h (by simp) hoth hzz
        replace h := hNew
        clear HST hNew hbl hzz hoth
        have hH := HS.out _ hg
        refine hK.out _ _ ?_ (fun hHeld => ?_)
        · with_reducible exact hH
        clear hK K hH
        try simp only [List.getElem_toArray, List.getElem_cons_succ, List.getElem_cons_zero]
        try simp only [Act.put]
        refine wpAnyH_done (by kernel_rfl) ?_ _
        go_wp2_with fail
        go_meet
        case rel => exact ⟨A', c', Lib.hid h, Lib.hid hN, Lib.hid hV⟩
  case rest =>
  obtain ⟨A7, c7, hF, hN, hk⟩ := hcut
  obtain ⟨w5, he⟩ : ∃ W, W = wc := ⟨_, rfl⟩
  subst he
  have h5 := hF.out
  have e5 := hN.out
  replace hk := hk.out
  have hq5 := (hk.block _ hz2).trans hq4
  have hg5 := (hk.block w.heap.size (by omega)).trans hg4
  have hW5 := hW4.trans (hk.mono (by omega))
  have hz5 := hk.size
  clear n0 n1 n2 n3 m0 m1 m2 m3 m4 m5 m6 m7 k0 k1 k2 k3 h6 e6 hg4 hr4 hq4 hE4 hF4 hW4 hkp hmay hF hN hk HS
  obtain ⟨n0, n1, n2, n3⟩ := box4 hg5
  obtain ⟨k0, k1, k2, k3⟩ := box4 h5
  by_cases hp : ¬ p = 0
  · have hAQ := hAQ.out
    rw [if_pos (.inl hp), hAQ0.out] at hAQ
    have hQ := Lib.hid hAQ
    have tp : (p != 0) = true := by simp [hp]
    clear hAQ hAQ0 hp
    obtain ⟨w9, HST9, hq9, hbl9, -, -⟩ := rg_store w.heap.size 0 0 none 0 0 0 hq5 rfl (by omega)
    have hW9 := hW5.trans hbl9
    clear h5 e5 hg5 hq5 hW5 hbl9
    go_wp2_with (first | (with_reducible refine wpList_store_known (by rfl) 24 _ _ (by rfl) ⟨w.heap.size + 1 + 1, 0, none⟩ _ (by with_unfolding_all rfl) (by with_unfolding_all rfl) HST9.out ?_))
    (try simp only [Exit.inBlock, Exit.then]); refine bodyPost_ret (results_row_tmp rfl _ _ (w.heap.size + 1 + 1) 24 #[.int .i64 0, .int .i64 0, .slice none 0 0, .int .i64 0] (0, 0) _ rfl hq9 Tryd.underlying24 rfl (by kernel_rfl)) rfl ?_
    rw [hQ.out]
    exact ⟨none, 0, rfl, es_nil _ _, hW9⟩
  have hp0 := Decidable.not_not.1 hp
  subst hp0
  have HC := Lib.hid (rregCheck_any ep vi le w5 e5)
  cases hm5 : (Re.mk ep vi xs le).may with
  | false =>
    have hAQ := hAQ.out
    rw [if_pos (.inr hm5), hAQ0.out] at hAQ
    have hQ := Lib.hid hAQ
    rw [hm5] at HC
    clear hAQ hAQ0 hp hm5
    go_wp2_with fail
    refine (HC.out).mono ?_
    rintro e w6 ⟨rfl, hb6⟩
    have hq6 := keepH hb6 hq5
    have hW6 := keepB hW5 hb6
    clear n0 n1 n2 n3 k0 k1 k2 k3 HC hb6
    obtain ⟨w9, HST9, hq9, hbl9, -, -⟩ := rg_store w.heap.size 0 0 none 0 0 0 hq6 rfl (by omega)
    have hW9 := hW6.trans hbl9
    clear h5 e5 hg5 hq5 hW5 hbl9 hq6 hW6
    go_wp2_with (first | (with_reducible refine wpList_store_known (by rfl) 24 _ _ (by rfl) ⟨w.heap.size + 1 + 1, 0, none⟩ _ (by with_unfolding_all rfl) (by with_unfolding_all rfl) HST9.out ?_))
    (try simp only [Exit.inBlock, Exit.then]); refine bodyPost_ret (results_row_tmp rfl _ _ (w.heap.size + 1 + 1) 24 #[.int .i64 0, .int .i64 0, .slice none 0 0, .int .i64 0] (0, 0) _ rfl hq9 Tryd.underlying24 rfl (by kernel_rfl)) rfl ?_
    rw [hQ.out]
    exact ⟨none, 0, rfl, es_nil _ _, hW9⟩
  | true =>
    have hAQ := hAQ.out
    rw [if_neg (by simp [hm5]), hAQ0.out] at hAQ
    have hQ := Lib.hid hAQ
    rw [hm5] at HC
    clear hAQ hAQ0 hp hm5
    go_wp2_with fail
    refine (HC.out).mono ?_
    rintro e w6 ⟨rfl, hb6⟩
    have hq6 := keepH hb6 hq5
    have h6 := keepH hb6 h5
    have e6 := keepE hb6 e5
    have hW6 := keepB hW5 hb6
    clear n0 n1 n2 n3 k0 k1 k2 k3 HC hb6 hq5 h5 e5 hg5 hW5
    obtain ⟨k0, k1, k2, k3⟩ := box4 h6
    obtain ⟨w9, HST9, hq9, hbl9, hzz9, hoth9⟩ := rg_store w.heap.size ep vi A7 xs.length c7 le hq6 rfl (by omega)
    have e9 := es_store e6 hq6 (by simp) hoth9 hzz9
    have hW9 := hW6.trans hbl9
    clear hq6 h6 e6 hW6 hbl9 hzz9 hoth9
    go_wp2_with (with_reducible refine wpList_store_known (by rfl) 24 _ _ (by rfl) ⟨w.heap.size + 1 + 1, 0, none⟩ _ (by with_unfolding_all rfl) (by with_unfolding_all rfl) HST9.out ?_)
    (try simp only [Exit.inBlock, Exit.then]); refine bodyPost_ret (results_row_tmp rfl _ _ (w.heap.size + 1 + 1) 24 #[.int .i64 ep, .int .i64 vi, .slice A7 xs.length c7, .int .i64 le] (0, 0) _ rfl hq9 Tryd.underlying24 rfl (by kernel_rfl)) rfl ?_
    rw [hQ.out]
    exact ⟨A7, c7, rfl, e9, hW9⟩
end Go.Proofs.YtnbhdehpdfojlaaDoor
