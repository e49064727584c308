/-
  behind of the statements: a register behind those of records that may come.
-/
import Derived.Test.YtnbhdehpdfojlaaDoorRgRecs
namespace Go.Proofs.YtnbhdehpdfojlaaDoor
open Go.RowKit Go.Sort
theorem asked_keep {W X : World} (h : Asked W) (hb : Below W.heap.size W X) : Asked X := h.keep hb
/-- What the records ahead come to. -/
def upR (l : List RcE) (k : Nat) : Re := behs ((l.take k).map RcE.x)
theorem upR_zero (l : List RcE) : upR l 0 = Re.zero := by simp [upR, behs]
theorem upR_succ {l : List RcE} {k : Nat} (hk : k < l.length) : upR l (k + 1) = (app (upR l k) l[k].x).getD (upR l k) := by
  unfold upR
  rw [List.take_succ_eq_append_getElem hk, List.map_append, List.map_cons, List.map_nil, behs_snoc]
theorem upR_may (l : List RcE) (k : Nat) : (upR l k).may = true := behs_may _
theorem upR_yes {l : List RcE} {k : Nat} (hk : k < l.length) {q : Re × Bool} (h : appQ (upR l k) l[k].x = q) (ho : q.2 = true) : upR l (k + 1) = q.1 := by
  rw [upR_succ hk]
  subst h
  simp only [appQ] at ho ⊢
  cases ha : app (upR l k) l[k].x with
  | none => rw [ha] at ho; cases ho
  | some r => rfl
theorem upR_no {l : List RcE} {k : Nat} (hk : k < l.length) {q : Re × Bool} (h : appQ (upR l k) l[k].x = q) (ho : q.2 = false) : upR l (k + 1) = upR l k := by
  rw [upR_succ hk]
  subst h
  simp only [appQ] at ho
  cases ha : app (upR l k) l[k].x with
  | none => rfl
  | some r => rw [ha] at ho; cases ho
/-- A register in a box, its log below. -/
def RAt (X : World) (g : Nat) (r : Re) : Prop := ∃ A c, X.heap[g]? = some (.cells #[.int .i64 r.p, .int .i64 r.v, .slice A r.es.length c, .int .i64 r.m] 24 (0, 0)) ∧ EsB X.heap.size X (.slice A r.es.length c) r.es
theorem RAt.keep {X Y : World} {g : Nat} {r : Re} (hb : Below X.heap.size X Y) (h : RAt X g r) : RAt Y g r := by
  obtain ⟨A, c, h1, h2⟩ := h
  exact ⟨A, c, keepH hb h1, keepE hb h2⟩
/-- What behind leaves. -/
def BhdPost (r : Re) (w : World) (e : Ending) (w' : World) : Prop :=
  ∃ A c, e = .returned (.agg #[.int .i64 r.p, .int .i64 r.v, .slice A r.es.length c, .int .i64 r.m]) ∧ EsB w'.heap.size w' (.slice A r.es.length c) r.es ∧ Below w.heap.size w w'
set_option maxRecDepth 100000 in
set_option maxHeartbeats 8000000 in
theorem bhd_any {A : Option Addr} {c : Nat} {l : List RcE} {w : World} (h : RcsB w.heap.size w (.slice A l.length c) l) (hA : Asked w) (hl100 : ∀ k (hk : k < l.length), l[k].x.es.length ≤ 100) : Calls Tryd.prog 19 #[.slice A l.length c] w (BhdPost (upR l l.length) w) := by
  have HAT := Lib.hid (fun X (hX : Below w.heap.size w X) k (hk : k < l.length) => (h.keep hX).at_ hk)
  have HAK := Lib.hid (fun X (hX : Below w.heap.size w X) => hA.keep hX)
  replace hl100 := Lib.hid hl100
  have hln := h.len
  have hl : l.length ≤ maxLen := by omega
  unfold maxLen at hl
  have hlc := hln.2.1
  clear h hln hA
  obtain ⟨w1, HX1⟩ : ∃ W : World, Hid (W = (w.alloc (.cells #[.int .i64 0, .int .i64 0, .slice none 0 0, .int .i64 0] 24)).alloc (.cells #[.int .i64 0, .int .i64 0, .slice none 0 0, .int .i64 0] 24)) := ⟨_, Lib.hid rfl⟩
  obtain ⟨hz1, hb1, hq1, hr1⟩ := two_new HX1.out
  go_enter Tryd.func19, Tryd.ntmps19
  go_wp2_with (rw [← HX1.out])
  go_loopw [4] (fun i wr => ∃ k : Nat, k ≤ l.length ∧ i = .int .i64 k ∧ Below w.heap.size w wr ∧ w.heap.size + 1 + 1 ≤ wr.heap.size ∧ wr.heap[w.heap.size]? = some (.cells #[.int .i64 0, .int .i64 0, .slice none 0 0, .int .i64 0] 24 (0, 0)) ∧ RAt wr (w.heap.size + 1) (upR l k)) (fun i _ => l.length - (intOf i).toNat)
  case atStart => exact ⟨0, Nat.zero_le _, rfl, hb1, by omega, hq1, none, 0, by rw [upR_zero]; exact hr1, by rw [upR_zero]; exact es_nil _ _⟩
  case round =>
    clear hz1 hb1 hq1 hr1 HX1
    obtain ⟨k, hk, rfl, hB, hsz, hq, hR⟩ := hrel
    by_cases hlt : k < l.length
    · obtain ⟨b1, o1, rfl, hb1l, hld, hxe, -⟩ := HAT.out wr hB k hlt
      have hii : (k : Int) < (l.length : Int) := by omega
      have hx100 := hl100.out k hlt
      obtain ⟨Ar, cr, hbx, her⟩ := hR
      have hmy := may_len (upR_may l k)
      obtain ⟨Q, hAQ⟩ : ∃ Q, Hid (appQ (upR l k) l[k].x = Q) := ⟨_, Lib.hid rfl⟩
      have HY := Lib.hid (fun h => upR_yes hlt hAQ.out h)
      have HN := Lib.hid (fun h => upR_no hlt hAQ.out h)
      have HLD := Lib.hid hld
      have HXE := Lib.hid hxe
      generalize upR l k = r at *
      clear hld hxe HAT hl100 hb1l
      generalize l[k] = rk at *
      obtain ⟨⟨ki, ep, vi, fr, le, xs⟩, st, XA, xc, FA, fn, fc⟩ := rk
      obtain ⟨p, v, es, m⟩ := r
      obtain ⟨⟨p', v', es', m'⟩, ok⟩ := Q
      simp only [RcE.cells] at HLD
      dsimp only at hbx her hmy hx100 HXE HY HN
      have HV : Hid (∀ X : World, Below wr.heap.size wr X → Calls Tryd.prog 11 #[.agg #[.int .i64 p, .int .i64 v, .slice Ar es.length cr, .int .i64 m], .agg #[.int .i64 ki, .int .i64 st, .int .i64 ep, .int .i64 vi, .int .i64 fr, .int .i64 le, .slice XA xs.length xc, .slice FA fn fc]] X (BehPost (⟨p', v', es', m'⟩, ok) X)) := Lib.hid fun X hX => by
        have h := apply_any p v m ki st ep vi fr le es xs Ar XA FA cr xc fn fc X (keepE hX her) (HXE.out X hX) (HAK.out X (keepB hB hX)) (by omega)
        rw [hAQ.out] at h
        exact h
      clear hmy hx100 HXE
      have HS : Hid (∀ X : World, Below wr.heap.size wr X → X.cell? ⟨w.heap.size + 1, 0, none⟩ = some (.int .i64 p) ∧ X.cell? ⟨w.heap.size + 1, 1, none⟩ = some (.int .i64 v) ∧ X.cell? ⟨w.heap.size + 1, 2, none⟩ = some (.slice Ar es.length cr) ∧ X.cell? ⟨w.heap.size + 1, 3, none⟩ = some (.int .i64 m) ∧ (loadVar 27 ⟨b1, o1 + k * 8, none⟩).run Tryd.prog X = .ok (.agg #[.int .i64 ki, .int .i64 st, .int .i64 ep, .int .i64 vi, .int .i64 fr, .int .i64 le, .slice XA xs.length xc, .slice FA fn fc]) X) := Lib.hid fun X hX => ⟨(box4 (keepH hX hbx)).1, (box4 (keepH hX hbx)).2.1, (box4 (keepH hX hbx)).2.2.1, (box4 (keepH hX hbx)).2.2.2, HLD.out X hX⟩
      go_upto_region 5 with fail
      go_cut [5, 6] (fun u f wx => ∃ g A c, u = .pointer (some ⟨g, 0, none⟩) ∧ f = .bool ok ∧ wr.heap.size ≤ g ∧ Hid (wx.heap[g]? = some (.cells #[.int .i64 p', .int .i64 v', .slice A es'.length c, .int .i64 m'] 24 (0, 0))) ∧ Hid (EsB wx.heap.size wx (.slice A es'.length c) es') ∧ Hid (Below wr.heap.size wr wx))
      case first =>
        have hQ : Below wr.heap.size wr wr.drew := (Below.refl _ _).drew
        have hH := HS.out _ hQ
        clear hbx HLD her hq HAK hB hsz HY HN hAQ hlc hl
        refine wp_region_held_drew (S := fun X => X.cell? ⟨w.heap.size + 1, 0, none⟩ = some (.int .i64 p) ∧ X.cell? ⟨w.heap.size + 1, 1, none⟩ = some (.int .i64 v) ∧ X.cell? ⟨w.heap.size + 1, 2, none⟩ = some (.slice Ar es.length cr) ∧ X.cell? ⟨w.heap.size + 1, 3, none⟩ = some (.int .i64 m) ∧ (loadVar 27 ⟨b1, o1 + k * 8, none⟩).run Tryd.prog X = .ok (.agg #[.int .i64 ki, .int .i64 st, .int .i64 ep, .int .i64 vi, .int .i64 fr, .int .i64 le, .slice XA xs.length xc, .slice FA fn fc]) X) (by kernel_rfl) hH (fun hHeld => ?_)
        clear hH
        refine wpAnyH_take (i := 0) (v := .agg #[.int .i64 p, .int .i64 v, .slice Ar es.length cr, .int .i64 m]) rfl (by kernel_rfl) (by kernel_rfl) (by kernel_rfl) (fun _ _ _ h => h) (Or.inl ⟨by rfl, ?_⟩) (by assumption) ?_
        · intro X hX
          obtain ⟨a0, a1, a2, a3, -⟩ := hX
          go_simp
        try simp only [List.getElem_toArray, List.getElem_cons_zero]
        try simp only [Act.put, List.setIfInBounds_toArray, List.set_cons_zero, List.set_cons_succ]
        refine wpAnyH_take (i := 1) (v := ?_) rfl (by kernel_rfl) (by kernel_rfl) (by kernel_rfl) (fun _ _ _ h => h) (Or.inl ⟨by rfl, ?_⟩) (by assumption) ?_
        rotate_left
        · intro X hX
          go_simp
          try with_reducible rfl
        try simp only [List.getElem_toArray, List.getElem_cons_succ, List.getElem_cons_zero]
        try simp only [Act.put, List.setIfInBounds_toArray, List.set_cons_zero, List.set_cons_succ]
        refine wpAnyH_take (i := 2) (v := ?_) rfl (by kernel_rfl) (by kernel_rfl) (by kernel_rfl) (fun _ _ _ h => h) (Or.inl ⟨by rfl, ?_⟩) (by assumption) ?_
        rotate_left
        · intro X hX
          go_simp
          try with_reducible rfl
        try simp only [List.getElem_toArray, List.getElem_cons_succ, List.getElem_cons_zero]
        try simp only [Act.put, List.setIfInBounds_toArray, List.set_cons_zero, List.set_cons_succ]
        refine wpAnyH_take (i := 3) (v := ?_) rfl (by kernel_rfl) (by kernel_rfl) (by kernel_rfl) (fun _ _ _ h => h) (Or.inl ⟨by rfl, ?_⟩) (by assumption) ?_
        rotate_left
        · intro X hX
          go_simp
          try with_reducible rfl
        try simp only [List.getElem_toArray, List.getElem_cons_succ, List.getElem_cons_zero]
        try simp only [Act.put, List.setIfInBounds_toArray, List.set_cons_zero, List.set_cons_succ]
        refine wpAnyH_take (i := 4) (v := .agg #[.int .i64 ki, .int .i64 st, .int .i64 ep, .int .i64 vi, .int .i64 fr, .int .i64 le, .slice XA xs.length xc, .slice FA fn fc]) rfl (by kernel_rfl) (by kernel_rfl) (by kernel_rfl) (fun _ _ _ h => h) (Or.inl ⟨by rfl, ?_⟩) (by assumption) ?_
        · intro X hX
          exact run_exec_load 27 (.tmp 17) rfl ⟨b1, o1 + k * 8, none⟩ rfl (hX.2.2.2.2)
        try simp only [List.getElem_toArray, List.getElem_cons_succ, List.getElem_cons_zero]
        try simp only [Act.put, List.setIfInBounds_toArray, List.set_cons_zero, List.set_cons_succ]
        refine wpAnyH_ready (rs := [5,9]) (by kernel_rfl) (by simp) (AllReadyH.cons rfl (fun K hK => ?_) (AllReadyH.cons rfl (fun K hK => ?_) AllReadyH.nil))
        · go_simp
          refine (HV.out _ hQ).mono ?_
          rintro e wm ⟨A', c', rfl, hN, hb⟩
          replace hQ := keepB hQ hb
          clear hb
          have hH := HS.out _ hQ
          go_wp2_with fail
          refine hK.out _ _ ?_ (fun hHeld => ?_)
          · with_reducible exact hH
          clear hK K hH
          try simp only [List.getElem_toArray, List.getElem_cons_succ, List.getElem_cons_zero]
          try simp only [Act.put, List.setIfInBounds_toArray, List.set_cons_zero, List.set_cons_succ]
          refine wpAnyH_take (i := 6) (v := ?_) rfl (by kernel_rfl) (by kernel_rfl) (by kernel_rfl) (fun _ _ _ h => h) (Or.inl ⟨by rfl, ?_⟩) (by assumption) ?_
          rotate_left
          · intro X hX
            go_simp
            try with_reducible rfl
          try simp only [List.getElem_toArray, List.getElem_cons_succ, List.getElem_cons_zero]
          try simp only [Act.put, List.setIfInBounds_toArray, List.set_cons_zero, List.set_cons_succ]
          refine wpAnyH_take (i := 7) (v := ?_) rfl (by kernel_rfl) (by kernel_rfl) (by kernel_rfl) (fun _ _ _ h => h) (Or.inl ⟨by rfl, ?_⟩) (by assumption) ?_
          rotate_left
          · intro X hX
            go_simp
            try with_reducible rfl
          try simp only [List.getElem_toArray, List.getElem_cons_succ, List.getElem_cons_zero]
          try simp only [Act.put, List.setIfInBounds_toArray, List.set_cons_zero, List.set_cons_succ]
          refine wpAnyH_take (i := 8) (v := ?_) rfl (by kernel_rfl) (by kernel_rfl) (by kernel_rfl) (fun _ _ _ h => h) (Or.inl ⟨by rfl, ?_⟩) (by assumption) ?_
          rotate_left
          · intro X hX
            go_simp
            try with_reducible rfl
          try simp only [List.getElem_toArray, List.getElem_cons_succ, List.getElem_cons_zero]
          try simp only [Act.put, List.setIfInBounds_toArray, List.set_cons_zero, List.set_cons_succ]
          refine wpAnyH_ready (rs := [9]) (by kernel_rfl) (by simp) (AllReadyH.cons rfl (fun K hK => ?_) AllReadyH.nil)
          · refine step_alloc_new rfl 24 rfl #[.int .i64 0, .int .i64 0, .slice none 0 0, .int .i64 0] alloc_rg ?_
            intro gF wn hF hgFb hb
            replace hgFb : wr.heap.size ≤ gF := Nat.le_trans hQ.size hgFb
            replace hQ := keepB hQ hb
            replace hN := keepE hb hN
            clear hb
            have hH := HS.out _ hQ
            refine hK.out _ _ ?_ (fun hHeld => ?_)
            · with_reducible exact hH
            clear hK K hH
            try simp only [List.getElem_toArray, List.getElem_cons_succ, List.getElem_cons_zero]
            try simp only [Act.put, List.setIfInBounds_toArray, List.set_cons_zero, List.set_cons_succ]
            refine wpAnyH_ready (rs := [10]) (by kernel_rfl) (by simp) (AllReadyH.cons rfl (fun K hK => ?_) AllReadyH.nil)
            · obtain ⟨wm, HST, hNew, hbl, hzz, hoth⟩ := rg_store (wr.heap.size) (p') (v') (A') (es'.length) (c') (m') hF rfl hgFb
              refine step_store_known rfl 24 _ _ rfl ⟨gF, 0, none⟩ (.agg #[.int .i64 (p'), .int .i64 (v'), .slice (A') (es'.length) (c'), .int .i64 (m')]) (by simp [Act.eval]) (by simp [Act.eval]) HST.out ?_
              replace hQ := hQ.trans hbl
              replace hN := es_store hN hF (by simp) hoth hzz
              replace hF := hNew
              clear HST hNew hbl hzz hoth
              have hH := HS.out _ hQ
              refine hK.out _ _ ?_ (fun hHeld => ?_)
              · with_reducible exact hH
              clear hK K hH
              try simp only [List.getElem_toArray, List.getElem_cons_succ, List.getElem_cons_zero]
              try simp only [Act.put]
              refine wpAnyH_take (i := 11) (v := ?_) rfl (by kernel_rfl) (by kernel_rfl) (by kernel_rfl) (fun _ _ _ h => h) (Or.inl ⟨by rfl, ?_⟩) (by assumption) ?_
              rotate_left
              · intro X hX
                go_simp
                try with_reducible rfl
              try simp only [List.getElem_toArray, List.getElem_cons_succ, List.getElem_cons_zero]
              try simp only [Act.put, List.setIfInBounds_toArray, List.set_cons_zero, List.set_cons_succ]
              refine wpAnyH_done (by kernel_rfl) ?_ _
              go_wp2_with fail
              go_meet
              case rel => exact ⟨gF, A', c', rfl, rfl, hgFb, Lib.hid hF, Lib.hid hN, Lib.hid hQ⟩
        · refine step_alloc_new rfl 24 rfl #[.int .i64 0, .int .i64 0, .slice none 0 0, .int .i64 0] alloc_rg ?_
          intro gF wn hF hgFb hb
          replace hgFb : wr.heap.size ≤ gF := Nat.le_trans hQ.size hgFb
          replace hQ := keepB hQ hb
          clear hb
          have hH := HS.out _ hQ
          refine hK.out _ _ ?_ (fun hHeld => ?_)
          · with_reducible exact hH
          clear hK K hH
          try simp only [List.getElem_toArray, List.getElem_cons_succ, List.getElem_cons_zero]
          try simp only [Act.put, List.setIfInBounds_toArray, List.set_cons_zero, List.set_cons_succ]
          refine wpAnyH_ready (rs := [5]) (by kernel_rfl) (by simp) (AllReadyH.cons rfl (fun K hK => ?_) AllReadyH.nil)
          · go_simp
            refine (HV.out _ hQ).mono ?_
            rintro e wm ⟨A', c', rfl, hN, hb⟩
            replace hQ := keepB hQ hb
            replace hF := keepH hb hF
            clear hb
            have hH := HS.out _ hQ
            go_wp2_with fail
            refine hK.out _ _ ?_ (fun hHeld => ?_)
            · with_reducible exact hH
            clear hK K hH
            try simp only [List.getElem_toArray, List.getElem_cons_succ, List.getElem_cons_zero]
            try simp only [Act.put, List.setIfInBounds_toArray, List.set_cons_zero, List.set_cons_succ]
            refine wpAnyH_take (i := 6) (v := ?_) rfl (by kernel_rfl) (by kernel_rfl) (by kernel_rfl) (fun _ _ _ h => h) (Or.inl ⟨by rfl, ?_⟩) (by assumption) ?_
            rotate_left
            · intro X hX
              go_simp
              try with_reducible rfl
            try simp only [List.getElem_toArray, List.getElem_cons_succ, List.getElem_cons_zero]
            try simp only [Act.put, List.setIfInBounds_toArray, List.set_cons_zero, List.set_cons_succ]
            refine wpAnyH_take (i := 7) (v := ?_) rfl (by kernel_rfl) (by kernel_rfl) (by kernel_rfl) (fun _ _ _ h => h) (Or.inl ⟨by rfl, ?_⟩) (by assumption) ?_
            rotate_left
            · intro X hX
              go_simp
              try with_reducible rfl
            try simp only [List.getElem_toArray, List.getElem_cons_succ, List.getElem_cons_zero]
            try simp only [Act.put, List.setIfInBounds_toArray, List.set_cons_zero, List.set_cons_succ]
            refine wpAnyH_take (i := 8) (v := ?_) rfl (by kernel_rfl) (by kernel_rfl) (by kernel_rfl) (fun _ _ _ h => h) (Or.inl ⟨by rfl, ?_⟩) (by assumption) ?_
            rotate_left
            · intro X hX
              go_simp
              try with_reducible rfl
            try simp only [List.getElem_toArray, List.getElem_cons_succ, List.getElem_cons_zero]
            try simp only [Act.put, List.setIfInBounds_toArray, List.set_cons_zero, List.set_cons_succ]
            refine wpAnyH_ready (rs := [10]) (by kernel_rfl) (by simp) (AllReadyH.cons rfl (fun K hK => ?_) AllReadyH.nil)
            · obtain ⟨wm, HST, hNew, hbl, hzz, hoth⟩ := rg_store (wr.heap.size) (p') (v') (A') (es'.length) (c') (m') hF rfl hgFb
              refine step_store_known rfl 24 _ _ rfl ⟨gF, 0, none⟩ (.agg #[.int .i64 (p'), .int .i64 (v'), .slice (A') (es'.length) (c'), .int .i64 (m')]) (by simp [Act.eval]) (by simp [Act.eval]) HST.out ?_
              replace hQ := hQ.trans hbl
              replace hN := es_store hN hF (by simp) hoth hzz
              replace hF := hNew
              clear HST hNew hbl hzz hoth
              have hH := HS.out _ hQ
              refine hK.out _ _ ?_ (fun hHeld => ?_)
              · with_reducible exact hH
              clear hK K hH
              try simp only [List.getElem_toArray, List.getElem_cons_succ, List.getElem_cons_zero]
              try simp only [Act.put]
              refine wpAnyH_take (i := 11) (v := ?_) rfl (by kernel_rfl) (by kernel_rfl) (by kernel_rfl) (fun _ _ _ h => h) (Or.inl ⟨by rfl, ?_⟩) (by assumption) ?_
              rotate_left
              · intro X hX
                go_simp
                try with_reducible rfl
              try simp only [List.getElem_toArray, List.getElem_cons_succ, List.getElem_cons_zero]
              try simp only [Act.put, List.setIfInBounds_toArray, List.set_cons_zero, List.set_cons_succ]
              refine wpAnyH_done (by kernel_rfl) ?_ _
              go_wp2_with fail
              go_meet
              case rel => exact ⟨gF, A', c', rfl, rfl, hgFb, Lib.hid hF, Lib.hid hN, Lib.hid hQ⟩
      case rest =>
      obtain ⟨g, A', c', rfl, rfl, hgb, hF, hN, hkp⟩ := hcut
      replace hkp := hkp.out
      have hbx' := keepH hkp hbx
      have hq' := keepH hkp hq
      have her' := keepE hkp her
      have hB' := keepB hB hkp
      have hsz' := hkp.size
      have hF := hF.out
      have hN := hN.out
      clear HS HV hbx hq her hB hkp HLD
      cases ok with
      | false =>
        have hu := HN.out rfl
        clear HY HN hAQ
        go_wp2_with fail
        go_roundw
        case rel => exact ⟨k + 1, by omega, by go_num, hB', by omega, hq', Ar, cr, by rw [hu]; exact hbx', by rw [hu]; exact her'⟩
        case measure => simp [intOf]; omega
      | true =>
        have hu := HY.out rfl
        clear HY HN hAQ her'
        obtain ⟨n0, n1, n2, n3⟩ := box4 hF
        obtain ⟨w7, HST, hbx7, hbl, hzz, hoth⟩ := rg_store w.heap.size p' v' A' es'.length c' m' hbx' rfl (by omega)
        have hN7 := es_store hN hbx' (by simp) hoth hzz
        have hq7 := (hoth w.heap.size (by omega)).trans hq'
        have hB7 := hB'.trans hbl
        clear hN hq' hbx' hF hB' hbl hoth
        go_wp2_with (with_reducible refine wpList_store_known (by rfl) 24 _ _ (by rfl) ⟨w.heap.size + 1, 0, none⟩ _ (by with_unfolding_all rfl) (by with_unfolding_all rfl) HST.out ?_)
        go_roundw
        case rel => exact ⟨k + 1, by omega, by go_num, hB7, by omega, hq7, A', c', by rw [hu]; exact hbx7, by rw [hu]; exact hN7⟩
        case measure => simp [intOf]; omega
    · obtain rfl : k = l.length := by omega
      have hii : ¬ (l.length : Int) < (l.length : Int) := by omega
      obtain ⟨Ar, cr, hbx, her⟩ := hR
      clear HAT HAK hl100
      generalize upR l l.length = r at *
      obtain ⟨p, v, es, m⟩ := r
      dsimp only at hbx her
      obtain ⟨n0, n1, n2, n3⟩ := box4 hbx
      obtain ⟨w7, HST, hq7, hbl, hzz, hoth⟩ := rg_store w.heap.size p v Ar es.length cr m hq rfl (by omega)
      have hN7 := es_store her hq (by simp) hoth hzz
      have hB7 := hB.trans hbl
      clear her hq hB hbl hoth hzz hbx
      go_wp2_with (with_reducible refine wpList_store_known (by rfl) 24 _ _ (by rfl) ⟨w.heap.size, 0, none⟩ _ (by with_unfolding_all rfl) (by with_unfolding_all rfl) HST.out ?_)
      (try simp only [Exit.inBlock, Exit.then]); refine bodyPost_ret (results_cell_row rfl _ _ w.heap.size 24 #[.int .i64 p, .int .i64 v, .slice Ar es.length cr, .int .i64 m] (0, 0) _ rfl hq7 Tryd.underlying24 rfl (by kernel_rfl)) rfl ?_
      exact ⟨Ar, cr, rfl, hN7, hB7⟩
end Go.Proofs.YtnbhdehpdfojlaaDoor
