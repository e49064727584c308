/-
  RegisterPlays: the walk.
-/
import Derived.Test.YtnbhdehpdfojlaaDoorRgRView
import Derived.Test.YtnbhdehpdfojlaaDoorRgLives
namespace Go.Proofs.YtnbhdehpdfojlaaDoor.registerPlaysW
open Go.RowKit Go.Sort
set_option maxRecDepth 100000 in
set_option maxHeartbeats 16000000 in
theorem walk (A : Option Addr) (c : Nat) (l : List RcE) (w : World) (hA : Asked w) (h : RcsB w.heap.size w (.slice A l.length c) l) : Calls Tryd.prog 4 #[.slice A l.length c] w (fun e w' => e = .returned (.bool true) ∧ Below w.heap.size w w') := by
  have HLV := Lib.hid (fun X (hX : Below w.heap.size w X) => lives_any X (hA.keep hX))
  have HAT := Lib.hid (fun X (hX : Below w.heap.size w X) k (hk : k < l.length) => (h.keep hX).at_ hk)
  have HAK := Lib.hid (fun X (hX : Below w.heap.size w X) => hA.keep hX)
  have hln := h.len
  have hl : l.length ≤ maxLen := by omega
  unfold maxLen at hl
  have hlc := hln.2.1
  clear h hln hA
  by_cases h60 : (60 : Int) < (l.length : Int)
  · have t0 : decide ((60 : Int) < (l.length : Int)) = true := decide_eq_true h60
    clear HAT HAK h60
    go_enter Tryd.func4, Tryd.ntmps4
    go_wp2_with fail
    refine (HLV.out w (Below.refl _ _)).mono ?_
    rintro e w2 ⟨rfl, hb2⟩
    go_wp2_with fail
    go_ret
    exact ⟨rfl, hb2⟩
  have t0 : decide ((60 : Int) < (l.length : Int)) = false := decide_eq_false h60
  clear h60
  obtain ⟨w2, HX2⟩ : ∃ W : World, Hid (W = (w.alloc (.cells #[.int .i64 0, .int .i64 0, .slice none 0 0, .int .i64 0] 24)).alloc (.cells #[.int .i64 0, .int .i64 0, .slice none 0 0, .int .i64 0] 24)) := ⟨_, Lib.hid rfl⟩
  obtain ⟨hz2, hb2, hr2, hs2⟩ := two_new HX2.out
  go_enter Tryd.func4, Tryd.ntmps4
  go_wp2_with (rw [← HX2.out])
  clear t0 HX2
  go_loopw [2, 5] (fun r i wr => ∃ k : Nat, k ≤ l.length ∧ r = .bool false ∧ i = .int .i64 k ∧ Below w.heap.size w wr ∧ RAt wr w.heap.size (upR l k) ∧ RAt wr (w.heap.size + 1) (upR l k)) (fun _ i _ => l.length - (intOf i).toNat)
  case atStart => exact ⟨0, Nat.zero_le _, rfl, rfl, hb2, ⟨none, 0, by rw [upR_zero]; exact hr2, by rw [upR_zero]; exact es_nil _ _⟩, none, 0, by rw [upR_zero]; exact hs2, by rw [upR_zero]; exact es_nil _ _⟩
  case round =>
    clear hb2 hr2 hs2 hz2
    obtain ⟨k, hk, rfl, rfl, hB, hR, hR'⟩ := hrel
    by_cases hlt : k < l.length
    · obtain ⟨b1, o1, rfl, hb1l, hld, hxe, x6⟩ := HAT.out wr hB k hlt
      have hii : (k : Int) < (l.length : Int) := by omega
      by_cases hx : (100 : Int) < (l[k].x.es.length : Int)
      · have t1 : decide ((100 : Int) < (l[k].x.es.length : Int)) = true := decide_eq_true hx
        clear HAT HAK hld hxe hx hR hR'
        generalize l[k].x.es.length = n at *
        generalize l[k].A = RA at *
        generalize l[k].c = rc at *
        go_wp2_with fail
        refine (HLV.out wr hB).mono ?_
        rintro e w3 ⟨rfl, hb3⟩
        go_wp2_with fail
        go_ret
        exact ⟨rfl, keepB hB hb3⟩
      have t1 : decide ((100 : Int) < (l[k].x.es.length : Int)) = false := decide_eq_false hx
      have hx100 : l[k].x.es.length ≤ 100 := by omega
      clear hx
      obtain ⟨Ar, cr, hbx, her⟩ := hR
      obtain ⟨As, cs, hby, hes⟩ := hR'
      have hgl := lt_of_block hby
      obtain ⟨Q, hAQ⟩ : ∃ Q, Hid (appQ (upR l k) l[k].x = Q) := ⟨_, Lib.hid rfl⟩
      have HY := Lib.hid (fun h => upR_yes hlt hAQ.out h)
      have HN := Lib.hid (fun h => upR_no hlt hAQ.out h)
      have HLD := Lib.hid hld
      have HXE := Lib.hid hxe
      generalize upR l k = r at *
      clear hld hxe HAT hb1l
      generalize l[k] = rk at *
      obtain ⟨⟨ki, ep, vi, fr, le, xs⟩, st, XA, xc, FA, fn, fc⟩ := rk
      obtain ⟨p, v, es, m⟩ := r
      obtain ⟨⟨p', v', es', m'⟩, ok⟩ := Q
      simp only [RcE.cells] at HLD
      dsimp only at hbx her hby hes hx100 HXE HY HN t1 x6
      have HV : Hid (∀ X : World, Below wr.heap.size wr X → Calls Tryd.prog 11 #[.agg #[.int .i64 p, .int .i64 v, .slice Ar es.length cr, .int .i64 m], .agg #[.int .i64 ki, .int .i64 st, .int .i64 ep, .int .i64 vi, .int .i64 fr, .int .i64 le, .slice XA xs.length xc, .slice FA fn fc]] X (BehPost (⟨p', v', es', m'⟩, ok) X)) := Lib.hid fun X hX => by
        have h := apply_any p v m ki st ep vi fr le es xs Ar XA FA cr xc fn fc X (keepE hX her) (HXE.out X hX) (HAK.out X (keepB hB hX)) (by omega)
        rw [hAQ.out] at h
        exact h
      have HS : Hid (∀ X : World, Below wr.heap.size wr X → X.cell? ⟨w.heap.size, 0, none⟩ = some (.int .i64 p) ∧ X.cell? ⟨w.heap.size, 1, none⟩ = some (.int .i64 v) ∧ X.cell? ⟨w.heap.size, 2, none⟩ = some (.slice Ar es.length cr) ∧ X.cell? ⟨w.heap.size, 3, none⟩ = some (.int .i64 m) ∧ (loadVar 27 ⟨b1, o1 + k * 8, none⟩).run Tryd.prog X = .ok (.agg #[.int .i64 ki, .int .i64 st, .int .i64 ep, .int .i64 vi, .int .i64 fr, .int .i64 le, .slice XA xs.length xc, .slice FA fn fc]) X) := Lib.hid fun X hX => ⟨(box4 (keepH hX hbx)).1, (box4 (keepH hX hbx)).2.1, (box4 (keepH hX hbx)).2.2.1, (box4 (keepH hX hbx)).2.2.2, HLD.out X hX⟩
      go_upto_region 9 with fail
      go_cut [6, 7] (fun u f wx => ∃ g A c, u = .pointer (some ⟨g, 0, none⟩) ∧ f = .bool ok ∧ wr.heap.size ≤ g ∧ Hid (wx.heap[g]? = some (.cells #[.int .i64 p', .int .i64 v', .slice A es'.length c, .int .i64 m'] 24 (0, 0))) ∧ Hid (EsB wx.heap.size wx (.slice A es'.length c) es') ∧ Hid (Below wr.heap.size wr wx))
      case first =>
        have hQ : Below wr.heap.size wr wr.drew := (Below.refl _ _).drew
        have hH := HS.out _ hQ
        clear hbx HLD her hby hes HAK hB HY HN hAQ hlc hl HXE HLV x6 t1
        refine wp_region_held_drew (S := fun X => X.cell? ⟨w.heap.size, 0, none⟩ = some (.int .i64 p) ∧ X.cell? ⟨w.heap.size, 1, none⟩ = some (.int .i64 v) ∧ X.cell? ⟨w.heap.size, 2, none⟩ = some (.slice Ar es.length cr) ∧ X.cell? ⟨w.heap.size, 3, none⟩ = some (.int .i64 m) ∧ (loadVar 27 ⟨b1, o1 + k * 8, none⟩).run Tryd.prog X = .ok (.agg #[.int .i64 ki, .int .i64 st, .int .i64 ep, .int .i64 vi, .int .i64 fr, .int .i64 le, .slice XA xs.length xc, .slice FA fn fc]) X) (by kernel_rfl) hH (fun hHeld => ?_)
        clear hH
        refine wpAnyH_take (i := 0) (v := .agg #[.int .i64 p, .int .i64 v, .slice Ar es.length cr, .int .i64 m]) rfl (by kernel_rfl) (by kernel_rfl) (by kernel_rfl) (fun _ _ _ h => h) (Or.inl ⟨by rfl, ?_⟩) (by assumption) ?_
        · intro X hX
          obtain ⟨a0, a1, a2, a3, -⟩ := hX
          go_simp
        try simp only [List.getElem_toArray, List.getElem_cons_zero]
        try simp only [Act.put, List.setIfInBounds_toArray, List.set_cons_zero, List.set_cons_succ]
        refine wpAnyH_take (i := 1) (v := ?_) rfl (by kernel_rfl) (by kernel_rfl) (by kernel_rfl) (fun _ _ _ h => h) (Or.inl ⟨by rfl, ?_⟩) (by assumption) ?_
        rotate_left
        · intro X hX
          go_simp
          try with_reducible rfl
        try simp only [List.getElem_toArray, List.getElem_cons_succ, List.getElem_cons_zero]
        try simp only [Act.put, List.setIfInBounds_toArray, List.set_cons_zero, List.set_cons_succ]
        refine wpAnyH_take (i := 2) (v := ?_) rfl (by kernel_rfl) (by kernel_rfl) (by kernel_rfl) (fun _ _ _ h => h) (Or.inl ⟨by rfl, ?_⟩) (by assumption) ?_
        rotate_left
        · intro X hX
          go_simp
          try with_reducible rfl
        try simp only [List.getElem_toArray, List.getElem_cons_succ, List.getElem_cons_zero]
        try simp only [Act.put, List.setIfInBounds_toArray, List.set_cons_zero, List.set_cons_succ]
        refine wpAnyH_take (i := 3) (v := ?_) rfl (by kernel_rfl) (by kernel_rfl) (by kernel_rfl) (fun _ _ _ h => h) (Or.inl ⟨by rfl, ?_⟩) (by assumption) ?_
        rotate_left
        · intro X hX
          go_simp
          try with_reducible rfl
        try simp only [List.getElem_toArray, List.getElem_cons_succ, List.getElem_cons_zero]
        try simp only [Act.put, List.setIfInBounds_toArray, List.set_cons_zero, List.set_cons_succ]
        refine wpAnyH_take (i := 4) (v := .agg #[.int .i64 ki, .int .i64 st, .int .i64 ep, .int .i64 vi, .int .i64 fr, .int .i64 le, .slice XA xs.length xc, .slice FA fn fc]) rfl (by kernel_rfl) (by kernel_rfl) (by kernel_rfl) (fun _ _ _ h => h) (Or.inl ⟨by rfl, ?_⟩) (by assumption) ?_
        · intro X hX
          exact run_exec_load 27 (.tmp 32) rfl ⟨b1, o1 + k * 8, none⟩ rfl (hX.2.2.2.2)
        try simp only [List.getElem_toArray, List.getElem_cons_succ, List.getElem_cons_zero]
        try simp only [Act.put, List.setIfInBounds_toArray, List.set_cons_zero, List.set_cons_succ]
        refine wpAnyH_ready (rs := [5,9]) (by kernel_rfl) (by simp) (AllReadyH.cons rfl (fun K hK => ?_) (AllReadyH.cons rfl (fun K hK => ?_) AllReadyH.nil))
        · go_simp
          refine (HV.out _ hQ).mono ?_
          rintro e wm ⟨A', c', rfl, hN, hb⟩
          replace hQ := keepB hQ hb
          clear hb
          have hH := HS.out _ hQ
          go_wp2_with fail
          refine hK.out _ _ ?_ (fun hHeld => ?_)
          · with_reducible exact hH
          clear hK K hH
          try simp only [List.getElem_toArray, List.getElem_cons_succ, List.getElem_cons_zero]
          try simp only [Act.put, List.setIfInBounds_toArray, List.set_cons_zero, List.set_cons_succ]
          refine wpAnyH_take (i := 6) (v := ?_) rfl (by kernel_rfl) (by kernel_rfl) (by kernel_rfl) (fun _ _ _ h => h) (Or.inl ⟨by rfl, ?_⟩) (by assumption) ?_
          rotate_left
          · intro X hX
            go_simp
            try with_reducible rfl
          try simp only [List.getElem_toArray, List.getElem_cons_succ, List.getElem_cons_zero]
          try simp only [Act.put, List.setIfInBounds_toArray, List.set_cons_zero, List.set_cons_succ]
          refine wpAnyH_take (i := 7) (v := ?_) rfl (by kernel_rfl) (by kernel_rfl) (by kernel_rfl) (fun _ _ _ h => h) (Or.inl ⟨by rfl, ?_⟩) (by assumption) ?_
          rotate_left
          · intro X hX
            go_simp
            try with_reducible rfl
          try simp only [List.getElem_toArray, List.getElem_cons_succ, List.getElem_cons_zero]
          try simp only [Act.put, List.setIfInBounds_toArray, List.set_cons_zero, List.set_cons_succ]
          refine wpAnyH_take (i := 8) (v := ?_) rfl (by kernel_rfl) (by kernel_rfl) (by kernel_rfl) (fun _ _ _ h => h) (Or.inl ⟨by rfl, ?_⟩) (by assumption) ?_
          rotate_left
          · intro X hX
            go_simp
            try with_reducible rfl
          try simp only [List.getElem_toArray, List.getElem_cons_succ, List.getElem_cons_zero]
          try simp only [Act.put, List.setIfInBounds_toArray, List.set_cons_zero, List.set_cons_succ]
          refine wpAnyH_ready (rs := [9]) (by kernel_rfl) (by simp) (AllReadyH.cons rfl (fun K hK => ?_) AllReadyH.nil)
          · refine step_alloc_new rfl 24 rfl #[.int .i64 0, .int .i64 0, .slice none 0 0, .int .i64 0] alloc_rg ?_
            intro gF wn hF hgFb hb
            replace hgFb : wr.heap.size ≤ gF := Nat.le_trans hQ.size hgFb
            replace hQ := keepB hQ hb
            replace hN := keepE hb hN
            clear hb
            have hH := HS.out _ hQ
            refine hK.out _ _ ?_ (fun hHeld => ?_)
            · with_reducible exact hH
            clear hK K hH
            try simp only [List.getElem_toArray, List.getElem_cons_succ, List.getElem_cons_zero]
            try simp only [Act.put, List.setIfInBounds_toArray, List.set_cons_zero, List.set_cons_succ]
            refine wpAnyH_ready (rs := [10]) (by kernel_rfl) (by simp) (AllReadyH.cons rfl (fun K hK => ?_) AllReadyH.nil)
            · obtain ⟨wm, HST, hNew, hbl, hzz, hoth⟩ := rg_store (wr.heap.size) (p') (v') (A') (es'.length) (c') (m') hF rfl hgFb
              refine step_store_known rfl 24 _ _ rfl ⟨gF, 0, none⟩ (.agg #[.int .i64 (p'), .int .i64 (v'), .slice (A') (es'.length) (c'), .int .i64 (m')]) (by simp [Act.eval]) (by simp [Act.eval]) HST.out ?_
              replace hQ := hQ.trans hbl
              replace hN := es_store hN hF (by simp) hoth hzz
              replace hF := hNew
              clear HST hNew hbl hzz hoth
              have hH := HS.out _ hQ
              refine hK.out _ _ ?_ (fun hHeld => ?_)
              · with_reducible exact hH
              clear hK K hH
              try simp only [List.getElem_toArray, List.getElem_cons_succ, List.getElem_cons_zero]
              try simp only [Act.put]
              refine wpAnyH_take (i := 11) (v := ?_) rfl (by kernel_rfl) (by kernel_rfl) (by kernel_rfl) (fun _ _ _ h => h) (Or.inl ⟨by rfl, ?_⟩) (by assumption) ?_
              rotate_left
              · intro X hX
                go_simp
                try with_reducible rfl
              try simp only [List.getElem_toArray, List.getElem_cons_succ, List.getElem_cons_zero]
              try simp only [Act.put, List.setIfInBounds_toArray, List.set_cons_zero, List.set_cons_succ]
              refine wpAnyH_done (by kernel_rfl) ?_ _
              go_wp2_with fail
              go_meet
              case rel => exact ⟨gF, A', c', rfl, rfl, hgFb, Lib.hid hF, Lib.hid hN, Lib.hid hQ⟩
        · refine step_alloc_new rfl 24 rfl #[.int .i64 0, .int .i64 0, .slice none 0 0, .int .i64 0] alloc_rg ?_
          intro gF wn hF hgFb hb
          replace hgFb : wr.heap.size ≤ gF := Nat.le_trans hQ.size hgFb
          replace hQ := keepB hQ hb
          clear hb
          have hH := HS.out _ hQ
          refine hK.out _ _ ?_ (fun hHeld => ?_)
          · with_reducible exact hH
          clear hK K hH
          try simp only [List.getElem_toArray, List.getElem_cons_succ, List.getElem_cons_zero]
          try simp only [Act.put, List.setIfInBounds_toArray, List.set_cons_zero, List.set_cons_succ]
          refine wpAnyH_ready (rs := [5]) (by kernel_rfl) (by simp) (AllReadyH.cons rfl (fun K hK => ?_) AllReadyH.nil)
          · go_simp
            refine (HV.out _ hQ).mono ?_
            rintro e wm ⟨A', c', rfl, hN, hb⟩
            replace hQ := keepB hQ hb
            replace hF := keepH hb hF
            clear hb
            have hH := HS.out _ hQ
            go_wp2_with fail
            refine hK.out _ _ ?_ (fun hHeld => ?_)
            · with_reducible exact hH
            clear hK K hH
            try simp only [List.getElem_toArray, List.getElem_cons_succ, List.getElem_cons_zero]
            try simp only [Act.put, List.setIfInBounds_toArray, List.set_cons_zero, List.set_cons_succ]
            refine wpAnyH_take (i := 6) (v := ?_) rfl (by kernel_rfl) (by kernel_rfl) (by kernel_rfl) (fun _ _ _ h => h) (Or.inl ⟨by rfl, ?_⟩) (by assumption) ?_
            rotate_left
            · intro X hX
              go_simp
              try with_reducible rfl
            try simp only [List.getElem_toArray, List.getElem_cons_succ, List.getElem_cons_zero]
            try simp only [Act.put, List.setIfInBounds_toArray, List.set_cons_zero, List.set_cons_succ]
            refine wpAnyH_take (i := 7) (v := ?_) rfl (by kernel_rfl) (by kernel_rfl) (by kernel_rfl) (fun _ _ _ h => h) (Or.inl ⟨by rfl, ?_⟩) (by assumption) ?_
            rotate_left
            · intro X hX
              go_simp
              try with_reducible rfl
            try simp only [List.getElem_toArray, List.getElem_cons_succ, List.getElem_cons_zero]
            try simp only [Act.put, List.setIfInBounds_toArray, List.set_cons_zero, List.set_cons_succ]
            refine wpAnyH_take (i := 8) (v := ?_) rfl (by kernel_rfl) (by kernel_rfl) (by kernel_rfl) (fun _ _ _ h => h) (Or.inl ⟨by rfl, ?_⟩) (by assumption) ?_
            rotate_left
            · intro X hX
              go_simp
              try with_reducible rfl
            try simp only [List.getElem_toArray, List.getElem_cons_succ, List.getElem_cons_zero]
            try simp only [Act.put, List.setIfInBounds_toArray, List.set_cons_zero, List.set_cons_succ]
            refine wpAnyH_ready (rs := [10]) (by kernel_rfl) (by simp) (AllReadyH.cons rfl (fun K hK => ?_) AllReadyH.nil)
            · obtain ⟨wm, HST, hNew, hbl, hzz, hoth⟩ := rg_store (wr.heap.size) (p') (v') (A') (es'.length) (c') (m') hF rfl hgFb
              refine step_store_known rfl 24 _ _ rfl ⟨gF, 0, none⟩ (.agg #[.int .i64 (p'), .int .i64 (v'), .slice (A') (es'.length) (c'), .int .i64 (m')]) (by simp [Act.eval]) (by simp [Act.eval]) HST.out ?_
              replace hQ := hQ.trans hbl
              replace hN := es_store hN hF (by simp) hoth hzz
              replace hF := hNew
              clear HST hNew hbl hzz hoth
              have hH := HS.out _ hQ
              refine hK.out _ _ ?_ (fun hHeld => ?_)
              · with_reducible exact hH
              clear hK K hH
              try simp only [List.getElem_toArray, List.getElem_cons_succ, List.getElem_cons_zero]
              try simp only [Act.put]
              refine wpAnyH_take (i := 11) (v := ?_) rfl (by kernel_rfl) (by kernel_rfl) (by kernel_rfl) (fun _ _ _ h => h) (Or.inl ⟨by rfl, ?_⟩) (by assumption) ?_
              rotate_left
              · intro X hX
                go_simp
                try with_reducible rfl
              try simp only [List.getElem_toArray, List.getElem_cons_succ, List.getElem_cons_zero]
              try simp only [Act.put, List.setIfInBounds_toArray, List.set_cons_zero, List.set_cons_succ]
              refine wpAnyH_done (by kernel_rfl) ?_ _
              go_wp2_with fail
              go_meet
              case rel => exact ⟨gF, A', c', rfl, rfl, hgFb, Lib.hid hF, Lib.hid hN, Lib.hid hQ⟩
      case rest =>
      obtain ⟨g, A', c', rfl, rfl, hgb, hF, hN, hkp⟩ := hcut
      obtain ⟨w4, he⟩ : ∃ W, W = wc := ⟨_, rfl⟩
      subst he
      replace hkp := hkp.out
      replace hby := keepH hkp hby
      replace hes := keepE hkp hes
      have hbr := keepH hkp hbx
      have her4 := keepE hkp her
      have hB4 := keepB hB hkp
      have HLD4 : Hid (∀ X : World, Below w4.heap.size w4 X → (loadVar 27 ⟨b1, o1 + k * 8, none⟩).run Tryd.prog X = .ok (.agg #[.int .i64 ki, .int .i64 st, .int .i64 ep, .int .i64 vi, .int .i64 fr, .int .i64 le, .slice XA xs.length xc, .slice FA fn fc]) X) := Lib.hid fun X hX => HLD.out X (keepB hkp hX)
      have hF6 := hF.out
      have hN6 := hN.out
      have hg6 := lt_of_block hF6
      have HV2 : Hid (∀ X : World, Below w4.heap.size w4 X → Calls Tryd.prog 12 #[.agg #[.int .i64 p, .int .i64 v, .slice As es.length cs, .int .i64 m], .agg #[.int .i64 ki, .int .i64 st, .int .i64 ep, .int .i64 vi, .int .i64 fr, .int .i64 le, .slice XA xs.length xc, .slice FA fn fc]] X (BehPost (⟨p', v', es', m'⟩, ok) X)) := Lib.hid fun X hX => by
        have h := rapply_any p v m ki st ep vi fr le es xs As XA FA cs xc fn fc X (keepE hX hes) (HXE.out X (keepB hkp hX)) (by omega)
        rw [hAQ.out] at h
        exact h
      clear HS HV hbx her hB HLD HXE hF hN x6 t1
      have hbx := hby
      have HLD := HLD4
      have hkp0 := Lib.hid hkp.size
      clear hkp
      go_wp2_with fail
      have HS : Hid (∀ X : World, Below w4.heap.size w4 X → X.cell? ⟨w.heap.size + 1, 0, none⟩ = some (.int .i64 p) ∧ X.cell? ⟨w.heap.size + 1, 1, none⟩ = some (.int .i64 v) ∧ X.cell? ⟨w.heap.size + 1, 2, none⟩ = some (.slice As es.length cs) ∧ X.cell? ⟨w.heap.size + 1, 3, none⟩ = some (.int .i64 m) ∧ (loadVar 27 ⟨b1, o1 + k * 8, none⟩).run Tryd.prog X = .ok (.agg #[.int .i64 ki, .int .i64 st, .int .i64 ep, .int .i64 vi, .int .i64 fr, .int .i64 le, .slice XA xs.length xc, .slice FA fn fc]) X) := Lib.hid fun X hX => ⟨(box4 (keepH hX hbx)).1, (box4 (keepH hX hbx)).2.1, (box4 (keepH hX hbx)).2.2.1, (box4 (keepH hX hbx)).2.2.2, HLD.out X hX⟩
      go_upto_region 10 with fail
      go_cut [8, 9] (fun u f wx => ∃ g A c, u = .pointer (some ⟨g, 0, none⟩) ∧ f = .bool ok ∧ w4.heap.size ≤ g ∧ Hid (wx.heap[g]? = some (.cells #[.int .i64 p', .int .i64 v', .slice A es'.length c, .int .i64 m'] 24 (0, 0))) ∧ Hid (EsB wx.heap.size wx (.slice A es'.length c) es') ∧ Hid (Below w4.heap.size w4 wx))
      case first =>
        have hQ : Below w4.heap.size w4 w4.drew := (Below.refl _ _).drew
        have hH := HS.out _ hQ
        clear hbx HLD hby hes hbr her4 hB4 hF6 hN6 HAK HY HN hAQ hlc hl HLV HLD4
        refine wp_region_held_drew (S := fun X => X.cell? ⟨w.heap.size + 1, 0, none⟩ = some (.int .i64 p) ∧ X.cell? ⟨w.heap.size + 1, 1, none⟩ = some (.int .i64 v) ∧ X.cell? ⟨w.heap.size + 1, 2, none⟩ = some (.slice As es.length cs) ∧ X.cell? ⟨w.heap.size + 1, 3, none⟩ = some (.int .i64 m) ∧ (loadVar 27 ⟨b1, o1 + k * 8, none⟩).run Tryd.prog X = .ok (.agg #[.int .i64 ki, .int .i64 st, .int .i64 ep, .int .i64 vi, .int .i64 fr, .int .i64 le, .slice XA xs.length xc, .slice FA fn fc]) X) (by kernel_rfl) hH (fun hHeld => ?_)
        clear hH
        refine wpAnyH_take (i := 0) (v := .agg #[.int .i64 p, .int .i64 v, .slice As es.length cs, .int .i64 m]) rfl (by kernel_rfl) (by kernel_rfl) (by kernel_rfl) (fun _ _ _ h => h) (Or.inl ⟨by rfl, ?_⟩) (by assumption) ?_
        · intro X hX
          obtain ⟨a0, a1, a2, a3, -⟩ := hX
          go_simp
        try simp only [List.getElem_toArray, List.getElem_cons_zero]
        try simp only [Act.put, List.setIfInBounds_toArray, List.set_cons_zero, List.set_cons_succ]
        refine wpAnyH_take (i := 1) (v := ?_) rfl (by kernel_rfl) (by kernel_rfl) (by kernel_rfl) (fun _ _ _ h => h) (Or.inl ⟨by rfl, ?_⟩) (by assumption) ?_
        rotate_left
        · intro X hX
          go_simp
          try with_reducible rfl
        try simp only [List.getElem_toArray, List.getElem_cons_succ, List.getElem_cons_zero]
        try simp only [Act.put, List.setIfInBounds_toArray, List.set_cons_zero, List.set_cons_succ]
        refine wpAnyH_take (i := 2) (v := ?_) rfl (by kernel_rfl) (by kernel_rfl) (by kernel_rfl) (fun _ _ _ h => h) (Or.inl ⟨by rfl, ?_⟩) (by assumption) ?_
        rotate_left
        · intro X hX
          go_simp
          try with_reducible rfl
        try simp only [List.getElem_toArray, List.getElem_cons_succ, List.getElem_cons_zero]
        try simp only [Act.put, List.setIfInBounds_toArray, List.set_cons_zero, List.set_cons_succ]
        refine wpAnyH_take (i := 3) (v := ?_) rfl (by kernel_rfl) (by kernel_rfl) (by kernel_rfl) (fun _ _ _ h => h) (Or.inl ⟨by rfl, ?_⟩) (by assumption) ?_
        rotate_left
        · intro X hX
          go_simp
          try with_reducible rfl
        try simp only [List.getElem_toArray, List.getElem_cons_succ, List.getElem_cons_zero]
        try simp only [Act.put, List.setIfInBounds_toArray, List.set_cons_zero, List.set_cons_succ]
        refine wpAnyH_take (i := 4) (v := .agg #[.int .i64 ki, .int .i64 st, .int .i64 ep, .int .i64 vi, .int .i64 fr, .int .i64 le, .slice XA xs.length xc, .slice FA fn fc]) rfl (by kernel_rfl) (by kernel_rfl) (by kernel_rfl) (fun _ _ _ h => h) (Or.inl ⟨by rfl, ?_⟩) (by assumption) ?_
        · intro X hX
          exact run_exec_load 27 (.tmp 41) rfl ⟨b1, o1 + k * 8, none⟩ rfl (hX.2.2.2.2)
        try simp only [List.getElem_toArray, List.getElem_cons_succ, List.getElem_cons_zero]
        try simp only [Act.put, List.setIfInBounds_toArray, List.set_cons_zero, List.set_cons_succ]
        refine wpAnyH_ready (rs := [5,9]) (by kernel_rfl) (by simp) (AllReadyH.cons rfl (fun K hK => ?_) (AllReadyH.cons rfl (fun K hK => ?_) AllReadyH.nil))
        · go_simp
          refine (HV2.out _ hQ).mono ?_
          rintro e wm ⟨A', c', rfl, hN, hb⟩
          replace hQ := keepB hQ hb
          clear hb
          have hH := HS.out _ hQ
          go_wp2_with fail
          refine hK.out _ _ ?_ (fun hHeld => ?_)
          · with_reducible exact hH
          clear hK K hH
          try simp only [List.getElem_toArray, List.getElem_cons_succ, List.getElem_cons_zero]
          try simp only [Act.put, List.setIfInBounds_toArray, List.set_cons_zero, List.set_cons_succ]
          refine wpAnyH_take (i := 6) (v := ?_) rfl (by kernel_rfl) (by kernel_rfl) (by kernel_rfl) (fun _ _ _ h => h) (Or.inl ⟨by rfl, ?_⟩) (by assumption) ?_
          rotate_left
          · intro X hX
            go_simp
            try with_reducible rfl
          try simp only [List.getElem_toArray, List.getElem_cons_succ, List.getElem_cons_zero]
          try simp only [Act.put, List.setIfInBounds_toArray, List.set_cons_zero, List.set_cons_succ]
          refine wpAnyH_take (i := 7) (v := ?_) rfl (by kernel_rfl) (by kernel_rfl) (by kernel_rfl) (fun _ _ _ h => h) (Or.inl ⟨by rfl, ?_⟩) (by assumption) ?_
          rotate_left
          · intro X hX
            go_simp
            try with_reducible rfl
          try simp only [List.getElem_toArray, List.getElem_cons_succ, List.getElem_cons_zero]
          try simp only [Act.put, List.setIfInBounds_toArray, List.set_cons_zero, List.set_cons_succ]
          refine wpAnyH_take (i := 8) (v := ?_) rfl (by kernel_rfl) (by kernel_rfl) (by kernel_rfl) (fun _ _ _ h => h) (Or.inl ⟨by rfl, ?_⟩) (by assumption) ?_
          rotate_left
          · intro X hX
            go_simp
            try with_reducible rfl
          try simp only [List.getElem_toArray, List.getElem_cons_succ, List.getElem_cons_zero]
          try simp only [Act.put, List.setIfInBounds_toArray, List.set_cons_zero, List.set_cons_succ]
          refine wpAnyH_ready (rs := [9]) (by kernel_rfl) (by simp) (AllReadyH.cons rfl (fun K hK => ?_) AllReadyH.nil)
          · refine step_alloc_new rfl 24 rfl #[.int .i64 0, .int .i64 0, .slice none 0 0, .int .i64 0] alloc_rg ?_
            intro gF wn hF hgFb hb
            replace hgFb : w4.heap.size ≤ gF := Nat.le_trans hQ.size hgFb
            replace hQ := keepB hQ hb
            replace hN := keepE hb hN
            clear hb
            have hH := HS.out _ hQ
            refine hK.out _ _ ?_ (fun hHeld => ?_)
            · with_reducible exact hH
            clear hK K hH
            try simp only [List.getElem_toArray, List.getElem_cons_succ, List.getElem_cons_zero]
            try simp only [Act.put, List.setIfInBounds_toArray, List.set_cons_zero, List.set_cons_succ]
            refine wpAnyH_ready (rs := [10]) (by kernel_rfl) (by simp) (AllReadyH.cons rfl (fun K hK => ?_) AllReadyH.nil)
            · obtain ⟨wm, HST, hNew, hbl, hzz, hoth⟩ := rg_store (w4.heap.size) (p') (v') (A') (es'.length) (c') (m') hF rfl hgFb
              refine step_store_known rfl 24 _ _ rfl ⟨gF, 0, none⟩ (.agg #[.int .i64 (p'), .int .i64 (v'), .slice (A') (es'.length) (c'), .int .i64 (m')]) (by simp [Act.eval]) (by simp [Act.eval]) HST.out ?_
              replace hQ := hQ.trans hbl
              replace hN := es_store hN hF (by simp) hoth hzz
              replace hF := hNew
              clear HST hNew hbl hzz hoth
              have hH := HS.out _ hQ
              refine hK.out _ _ ?_ (fun hHeld => ?_)
              · with_reducible exact hH
              clear hK K hH
              try simp only [List.getElem_toArray, List.getElem_cons_succ, List.getElem_cons_zero]
              try simp only [Act.put]
              refine wpAnyH_take (i := 11) (v := ?_) rfl (by kernel_rfl) (by kernel_rfl) (by kernel_rfl) (fun _ _ _ h => h) (Or.inl ⟨by rfl, ?_⟩) (by assumption) ?_
              rotate_left
              · intro X hX
                go_simp
                try with_reducible rfl
              try simp only [List.getElem_toArray, List.getElem_cons_succ, List.getElem_cons_zero]
              try simp only [Act.put, List.setIfInBounds_toArray, List.set_cons_zero, List.set_cons_succ]
              refine wpAnyH_done (by kernel_rfl) ?_ _
              go_wp2_with fail
              go_meet
              case rel => exact ⟨gF, A', c', rfl, rfl, hgFb, Lib.hid hF, Lib.hid hN, Lib.hid hQ⟩
        · refine step_alloc_new rfl 24 rfl #[.int .i64 0, .int .i64 0, .slice none 0 0, .int .i64 0] alloc_rg ?_
          intro gF wn hF hgFb hb
          replace hgFb : w4.heap.size ≤ gF := Nat.le_trans hQ.size hgFb
          replace hQ := keepB hQ hb
          clear hb
          have hH := HS.out _ hQ
          refine hK.out _ _ ?_ (fun hHeld => ?_)
          · with_reducible exact hH
          clear hK K hH
          try simp only [List.getElem_toArray, List.getElem_cons_succ, List.getElem_cons_zero]
          try simp only [Act.put, List.setIfInBounds_toArray, List.set_cons_zero, List.set_cons_succ]
          refine wpAnyH_ready (rs := [5]) (by kernel_rfl) (by simp) (AllReadyH.cons rfl (fun K hK => ?_) AllReadyH.nil)
          · go_simp
            refine (HV2.out _ hQ).mono ?_
            rintro e wm ⟨A', c', rfl, hN, hb⟩
            replace hQ := keepB hQ hb
            replace hF := keepH hb hF
            clear hb
            have hH := HS.out _ hQ
            go_wp2_with fail
            refine hK.out _ _ ?_ (fun hHeld => ?_)
            · with_reducible exact hH
            clear hK K hH
            try simp only [List.getElem_toArray, List.getElem_cons_succ, List.getElem_cons_zero]
            try simp only [Act.put, List.setIfInBounds_toArray, List.set_cons_zero, List.set_cons_succ]
            refine wpAnyH_take (i := 6) (v := ?_) rfl (by kernel_rfl) (by kernel_rfl) (by kernel_rfl) (fun _ _ _ h => h) (Or.inl ⟨by rfl, ?_⟩) (by assumption) ?_
            rotate_left
            · intro X hX
              go_simp
              try with_reducible rfl
            try simp only [List.getElem_toArray, List.getElem_cons_succ, List.getElem_cons_zero]
            try simp only [Act.put, List.setIfInBounds_toArray, List.set_cons_zero, List.set_cons_succ]
            refine wpAnyH_take (i := 7) (v := ?_) rfl (by kernel_rfl) (by kernel_rfl) (by kernel_rfl) (fun _ _ _ h => h) (Or.inl ⟨by rfl, ?_⟩) (by assumption) ?_
            rotate_left
            · intro X hX
              go_simp
              try with_reducible rfl
            try simp only [List.getElem_toArray, List.getElem_cons_succ, List.getElem_cons_zero]
            try simp only [Act.put, List.setIfInBounds_toArray, List.set_cons_zero, List.set_cons_succ]
            refine wpAnyH_take (i := 8) (v := ?_) rfl (by kernel_rfl) (by kernel_rfl) (by kernel_rfl) (fun _ _ _ h => h) (Or.inl ⟨by rfl, ?_⟩) (by assumption) ?_
            rotate_left
            · intro X hX
              go_simp
              try with_reducible rfl
            try simp only [List.getElem_toArray, List.getElem_cons_succ, List.getElem_cons_zero]
            try simp only [Act.put, List.setIfInBounds_toArray, List.set_cons_zero, List.set_cons_succ]
            refine wpAnyH_ready (rs := [10]) (by kernel_rfl) (by simp) (AllReadyH.cons rfl (fun K hK => ?_) AllReadyH.nil)
            · obtain ⟨wm, HST, hNew, hbl, hzz, hoth⟩ := rg_store (w4.heap.size) (p') (v') (A') (es'.length) (c') (m') hF rfl hgFb
              refine step_store_known rfl 24 _ _ rfl ⟨gF, 0, none⟩ (.agg #[.int .i64 (p'), .int .i64 (v'), .slice (A') (es'.length) (c'), .int .i64 (m')]) (by simp [Act.eval]) (by simp [Act.eval]) HST.out ?_
              replace hQ := hQ.trans hbl
              replace hN := es_store hN hF (by simp) hoth hzz
              replace hF := hNew
              clear HST hNew hbl hzz hoth
              have hH := HS.out _ hQ
              refine hK.out _ _ ?_ (fun hHeld => ?_)
              · with_reducible exact hH
              clear hK K hH
              try simp only [List.getElem_toArray, List.getElem_cons_succ, List.getElem_cons_zero]
              try simp only [Act.put]
              refine wpAnyH_take (i := 11) (v := ?_) rfl (by kernel_rfl) (by kernel_rfl) (by kernel_rfl) (fun _ _ _ h => h) (Or.inl ⟨by rfl, ?_⟩) (by assumption) ?_
              rotate_left
              · intro X hX
                go_simp
                try with_reducible rfl
              try simp only [List.getElem_toArray, List.getElem_cons_succ, List.getElem_cons_zero]
              try simp only [Act.put, List.setIfInBounds_toArray, List.set_cons_zero, List.set_cons_succ]
              refine wpAnyH_done (by kernel_rfl) ?_ _
              go_wp2_with fail
              go_meet
              case rel => exact ⟨gF, A', c', rfl, rfl, hgFb, Lib.hid hF, Lib.hid hN, Lib.hid hQ⟩
      case rest =>
      obtain ⟨g8, A8, c8, rfl, rfl, hgb8, hF, hN, hkp⟩ := hcut
      obtain ⟨w5, he⟩ : ∃ W, W = wc := ⟨_, rfl⟩
      subst he
      replace hkp := hkp.out
      replace hby := keepH hkp hby
      replace hes := keepE hkp hes
      replace hbr := keepH hkp hbr
      replace her4 := keepE hkp her4
      replace hF6 := keepH hkp hF6
      replace hN6 := keepE hkp hN6
      replace hB4 := keepB hB4 hkp
      have hF8 := hF.out
      have hN8 := hN.out
      have hkp0 := hkp0.out
      clear HS HV2 hF hN hbx HLD HLD4 hkp hAQ
      cases ok with
      | false =>
        have hu := HN.out rfl
        have HSR := Lib.hid (sameReg_any p v m p v m w5 her4 hes)
        rw [decide_eq_true rfl] at HSR
        obtain ⟨n0, n1, n2, n3⟩ := box4 hbr
        obtain ⟨k0, k1, k2, k3⟩ := box4 hby
        clear HY HN hN8 hF8 hN6 hF6
        go_wp2_with fail
        refine (HSR.out).mono ?_
        rintro e w6 ⟨rfl, hb6⟩
        replace hby := keepH hb6 hby
        replace hes := keepE hb6 hes
        replace hbr := keepH hb6 hbr
        replace her4 := keepE hb6 her4
        replace hB4 := keepB hB4 hb6
        clear n0 n1 n2 n3 k0 k1 k2 k3 HSR hb6
        go_wp2_with fail
        go_roundw
        case rel => exact ⟨k + 1, by omega, rfl, by go_num, hB4, ⟨Ar, cr, by rw [hu]; exact hbr, by rw [hu]; exact her4⟩, As, cs, by rw [hu]; exact hby, by rw [hu]; exact hes⟩
        case measure => simp [intOf]; omega
      | true =>
        have hu := HY.out rfl
        clear HY HN her4 hes
        have HS : Hid (∀ X : World, X.heap[g]? = w5.heap[g]? → X.heap[g8]? = w5.heap[g8]? → X.cell? ⟨g, 0, none⟩ = some (.int .i64 p') ∧ X.cell? ⟨g, 1, none⟩ = some (.int .i64 v') ∧ X.cell? ⟨g, 2, none⟩ = some (.slice A' es'.length c') ∧ X.cell? ⟨g, 3, none⟩ = some (.int .i64 m') ∧ X.cell? ⟨g8, 0, none⟩ = some (.int .i64 p') ∧ X.cell? ⟨g8, 1, none⟩ = some (.int .i64 v') ∧ X.cell? ⟨g8, 2, none⟩ = some (.slice A8 es'.length c8) ∧ X.cell? ⟨g8, 3, none⟩ = some (.int .i64 m')) := Lib.hid fun X h1 h2 => by
          have h1' := box4 (h1.trans hF6)
          have h2' := box4 (h2.trans hF8)
          exact ⟨h1'.1, h1'.2.1, h1'.2.2.1, h1'.2.2.2, h2'.1, h2'.2.1, h2'.2.2.1, h2'.2.2.2⟩
        go_upto_region 14 with fail
        have hx1 : w5.drew.heap[g]? = w5.heap[g]? := rfl
        have hx2 : w5.drew.heap[g8]? = w5.heap[g8]? := rfl
        replace hbr : w5.drew.heap[w.heap.size]? = _ := hbr
        replace hby : w5.drew.heap[w.heap.size + 1]? = _ := hby
        replace hN6 : EsB w5.drew.heap.size w5.drew _ _ := hN6
        replace hN8 : EsB w5.drew.heap.size w5.drew _ _ := hN8
        replace hB4 : Below w.heap.size w w5.drew := hB4.drew
        have hH := HS.out _ hx1 hx2
        clear hF6 hF8
        refine wp_region_held_drew (S := fun X => X.cell? ⟨g, 0, none⟩ = some (.int .i64 p') ∧ X.cell? ⟨g, 1, none⟩ = some (.int .i64 v') ∧ X.cell? ⟨g, 2, none⟩ = some (.slice A' es'.length c') ∧ X.cell? ⟨g, 3, none⟩ = some (.int .i64 m') ∧ X.cell? ⟨g8, 0, none⟩ = some (.int .i64 p') ∧ X.cell? ⟨g8, 1, none⟩ = some (.int .i64 v') ∧ X.cell? ⟨g8, 2, none⟩ = some (.slice A8 es'.length c8) ∧ X.cell? ⟨g8, 3, none⟩ = some (.int .i64 m')) (by kernel_rfl) hH (fun hHeld => ?_)
        clear hH
        refine wpAnyH_take (i := 0) (v := .agg #[.int .i64 p', .int .i64 v', .slice A' es'.length c', .int .i64 m']) rfl (by kernel_rfl) (by kernel_rfl) (by kernel_rfl) (fun _ _ _ h => h) (Or.inl ⟨by rfl, ?_⟩) (by assumption) ?_
        · intro X hX
          obtain ⟨a0, a1, a2, a3, d0, d1, d2, d3⟩ := hX
          go_simp
        try simp only [List.getElem_toArray, List.getElem_cons_zero]
        try simp only [Act.put, List.setIfInBounds_toArray, List.set_cons_zero, List.set_cons_succ]
        refine wpAnyH_take (i := 1) (v := .agg #[.int .i64 p', .int .i64 v', .slice A8 es'.length c8, .int .i64 m']) rfl (by kernel_rfl) (by kernel_rfl) (by kernel_rfl) (fun _ _ _ h => h) (Or.inl ⟨by rfl, ?_⟩) (by assumption) ?_
        · intro X hX
          obtain ⟨a0, a1, a2, a3, d0, d1, d2, d3⟩ := hX
          go_simp
        try simp only [List.getElem_toArray, List.getElem_cons_succ, List.getElem_cons_zero]
        try simp only [Act.put, List.setIfInBounds_toArray, List.set_cons_zero, List.set_cons_succ]
        refine wpAnyH_ready (rs := [2]) (by kernel_rfl) (by simp) (AllReadyH.cons rfl (fun K hK => ?_) AllReadyH.nil)
        · obtain ⟨wm, HST, hNew, hbl, hzz, hoth⟩ := rg_store (w.heap.size) (p') (v') (A') (es'.length) (c') (m') hbr rfl (by omega)
          refine step_store_known rfl 24 _ _ rfl ⟨w.heap.size, 0, none⟩ (.agg #[.int .i64 (p'), .int .i64 (v'), .slice (A') (es'.length) (c'), .int .i64 (m')]) (by simp [Act.eval]) (by simp [Act.eval]) HST.out ?_
          replace hx1 := (hoth _ (by omega)).trans hx1
          replace hx2 := (hoth _ (by omega)).trans hx2
          replace hby := (hoth _ (by omega)).trans hby
          replace hN6 := es_store hN6 hbr (by simp) hoth hzz
          replace hN8 := es_store hN8 hbr (by simp) hoth hzz
          replace hB4 := hB4.trans hbl
          replace hbr := hNew
          clear HST hNew hbl hzz hoth
          have hH := HS.out _ hx1 hx2
          refine hK.out _ _ ?_ (fun hHeld => ?_)
          · with_reducible exact hH
          clear hK K hH
          try simp only [List.getElem_toArray, List.getElem_cons_succ, List.getElem_cons_zero]
          try simp only [Act.put]
          refine wpAnyH_ready (rs := [3]) (by kernel_rfl) (by simp) (AllReadyH.cons rfl (fun K hK => ?_) AllReadyH.nil)
          · obtain ⟨wm, HST, hNew, hbl, hzz, hoth⟩ := rg_store (w.heap.size) (p') (v') (A8) (es'.length) (c8) (m') hby rfl (by omega)
            refine step_store_known rfl 24 _ _ rfl ⟨w.heap.size + 1, 0, none⟩ (.agg #[.int .i64 (p'), .int .i64 (v'), .slice (A8) (es'.length) (c8), .int .i64 (m')]) (by simp [Act.eval]) (by simp [Act.eval]) HST.out ?_
            replace hx1 := (hoth _ (by omega)).trans hx1
            replace hx2 := (hoth _ (by omega)).trans hx2
            replace hbr := (hoth _ (by omega)).trans hbr
            replace hN6 := es_store hN6 hby (by simp) hoth hzz
            replace hN8 := es_store hN8 hby (by simp) hoth hzz
            replace hB4 := hB4.trans hbl
            replace hby := hNew
            clear HST hNew hbl hzz hoth
            have hH := HS.out _ hx1 hx2
            refine hK.out _ _ ?_ (fun hHeld => ?_)
            · with_reducible exact hH
            clear hK K hH
            try simp only [List.getElem_toArray, List.getElem_cons_succ, List.getElem_cons_zero]
            try simp only [Act.put]
            refine wpAnyH_done (by kernel_rfl) ?_ _
            obtain ⟨n0, n1, n2, n3⟩ := box4 hbr
            obtain ⟨k0, k1, k2, k3⟩ := box4 hby
            have HSR := Lib.hid (sameReg_any p' v' m' p' v' m' _ hN6 hN8)
            rw [decide_eq_true rfl] at HSR
            go_wp2_with fail
            refine (HSR.out).mono ?_
            rintro e w9 ⟨rfl, hb6⟩
            replace hby := keepH hb6 hby
            replace hbr := keepH hb6 hbr
            replace hN6 := keepE hb6 hN6
            replace hN8 := keepE hb6 hN8
            replace hB4 := keepB hB4 hb6
            clear n0 n1 n2 n3 k0 k1 k2 k3 HSR hb6
            go_wp2_with fail
            go_roundw
            case rel => exact ⟨k + 1, by omega, rfl, by go_num, hB4, ⟨A', c', by rw [hu]; exact hbr, by rw [hu]; exact hN6⟩, A8, c8, by rw [hu]; exact hby, by rw [hu]; exact hN8⟩
            case measure => simp [intOf]; omega
    · obtain rfl : k = l.length := by omega
      have hii : ¬ (l.length : Int) < (l.length : Int) := by omega
      clear HAT HAK hR hR'
      go_wp2_with fail
      refine (HLV.out wr hB).mono ?_
      rintro e w2 ⟨rfl, hb2⟩
      go_wp2_with fail
      go_ret
      exact ⟨rfl, keepB hB hb2⟩
end Go.Proofs.YtnbhdehpdfojlaaDoor.registerPlaysW
