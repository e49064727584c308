/-
  RegisterTwice: the walk.
-/
import Derived.Test.YtnbhdehpdfojlaaDoorRgPure
import Derived.Test.YtnbhdehpdfojlaaDoorRgLives
namespace Go.Proofs.YtnbhdehpdfojlaaDoor.registerTwiceW
open Go.RowKit Go.Sort
set_option maxRecDepth 100000 in
set_option maxHeartbeats 16000000 in
theorem walk (A : Option Addr) (c : Nat) (l : List RcE) (w : World) (hA : Asked w) (h : RcsB w.heap.size w (.slice A l.length c) l) : Calls Tryd.prog 7 #[.slice A l.length c] w (fun e w' => e = .returned (.bool true) ∧ Below w.heap.size w w') := by
  have HBY := Lib.hid (beyond_any h)
  have HLV := Lib.hid (fun X (hX : Below w.heap.size w X) => lives_any X (hA.keep hX))
  cases hb : beyB l with
  | true =>
    rw [hb] at HBY
    clear hb h hA
    go_enter Tryd.func7, Tryd.ntmps7
    go_wp2_with fail
    refine (HBY.out).mono ?_
    rintro e w1 ⟨rfl, hb1⟩
    go_wp2_with fail
    refine (HLV.out w1 hb1).mono ?_
    rintro e w2 ⟨rfl, hb2⟩
    go_wp2_with fail
    go_ret
    exact ⟨rfl, keepB hb1 hb2⟩
  | false =>
    rw [hb] at HBY
    obtain ⟨-, hl100⟩ := beyB_no hb
    replace hl100 := Lib.hid hl100
    have HAT := Lib.hid (fun X (hX : Below w.heap.size w X) k (hk : k < l.length) => (h.keep hX).at_ hk)
    have HAK := Lib.hid (fun X (hX : Below w.heap.size w X) => hA.keep hX)
    have hln := h.len
    have hl : l.length ≤ maxLen := by omega
    unfold maxLen at hl
    have hlc := hln.2.1
    clear h hln hA hb
    go_enter Tryd.func7, Tryd.ntmps7
    go_wp2_with fail
    refine (HBY.out).mono ?_
    rintro e w1 ⟨rfl, hb1⟩
    obtain ⟨g3, hg3⟩ : ∃ g, Hid (g = w1.heap.size) := ⟨_, Lib.hid rfl⟩
    obtain ⟨w2, HX2⟩ : ∃ W : World, Hid (W = w1.alloc (.cells #[.int .i64 0, .int .i64 0, .slice none 0 0, .int .i64 0] 24)) := ⟨_, Lib.hid rfl⟩
    have hb2 : Below w.heap.size w w2 := by rw [HX2.out]; exact keepB hb1 (below_new _ _)
    have hr2 : w2.heap[g3]? = some (.cells #[.int .i64 0, .int .i64 0, .slice none 0 0, .int .i64 0] 24 (0, 0)) := by rw [HX2.out, hg3.out]; exact heap_alloc_new _ _
    have hgw : w.heap.size ≤ g3 := by rw [hg3.out]; exact hb1.size
    go_wp2_with ((rw [← HX2.out]); try rw [← hg3.out])
    clear HBY hb1 HX2 hg3
    go_loopw [2, 4] (fun r i wr => ∃ k : Nat, k ≤ l.length ∧ r = .bool false ∧ i = .int .i64 k ∧ Below w.heap.size w wr ∧ RAt wr g3 (upR l k)) (fun _ i _ => l.length - (intOf i).toNat)
    case atStart => exact ⟨0, Nat.zero_le _, rfl, rfl, hb2, none, 0, by rw [upR_zero]; exact hr2, by rw [upR_zero]; exact es_nil _ _⟩
    case round =>
      clear hb2 hr2
      obtain ⟨k, hk, rfl, rfl, hB, hR⟩ := hrel
      by_cases hlt : k < l.length
      · obtain ⟨b1, o1, rfl, hb1l, hld, hxe, -⟩ := HAT.out wr hB k hlt
        have hii : (k : Int) < (l.length : Int) := by omega
        have hx100 := hl100.out k hlt
        obtain ⟨Ar, cr, hbx, her⟩ := hR
        have hg3l := lt_of_block hbx
        have hmay := upR_may l k
        have hmy := may_len hmay
        obtain ⟨Q, hAQ⟩ : ∃ Q, Hid (appQ (upR l k) l[k].x = Q) := ⟨_, Lib.hid rfl⟩
        have HY := Lib.hid (fun h => upR_yes hlt hAQ.out h)
        have HN := Lib.hid (fun h => upR_no hlt hAQ.out h)
        have HSM := Lib.hid (fun h => appQ_some hAQ.out h)
        have HLD := Lib.hid hld
        have HXE := Lib.hid hxe
        replace hmay := Lib.hid hmay
        generalize upR l k = r at *
        clear hld hxe HAT hl100 hb1l
        generalize l[k] = rk at *
        obtain ⟨⟨ki, ep, vi, fr, le, xs⟩, st, XA, xc, FA, fn, fc⟩ := rk
        obtain ⟨p, v, es, m⟩ := r
        obtain ⟨⟨p', v', es', m'⟩, ok⟩ := Q
        simp only [RcE.cells] at HLD
        dsimp only at hbx her hmy hx100 HXE HY HN HSM
        have HV : Hid (∀ X : World, Below wr.heap.size wr X → Calls Tryd.prog 11 #[.agg #[.int .i64 p, .int .i64 v, .slice Ar es.length cr, .int .i64 m], .agg #[.int .i64 ki, .int .i64 st, .int .i64 ep, .int .i64 vi, .int .i64 fr, .int .i64 le, .slice XA xs.length xc, .slice FA fn fc]] X (BehPost (⟨p', v', es', m'⟩, ok) X)) := Lib.hid fun X hX => by
          have h := apply_any p v m ki st ep vi fr le es xs Ar XA FA cr xc fn fc X (keepE hX her) (HXE.out X hX) (HAK.out X (keepB hB hX)) (by omega)
          rw [hAQ.out] at h
          exact h
        have HS : Hid (∀ X : World, Below wr.heap.size wr X → X.cell? ⟨g3, 0, none⟩ = some (.int .i64 p) ∧ X.cell? ⟨g3, 1, none⟩ = some (.int .i64 v) ∧ X.cell? ⟨g3, 2, none⟩ = some (.slice Ar es.length cr) ∧ X.cell? ⟨g3, 3, none⟩ = some (.int .i64 m) ∧ (loadVar 27 ⟨b1, o1 + k * 8, none⟩).run Tryd.prog X = .ok (.agg #[.int .i64 ki, .int .i64 st, .int .i64 ep, .int .i64 vi, .int .i64 fr, .int .i64 le, .slice XA xs.length xc, .slice FA fn fc]) X) := Lib.hid fun X hX => ⟨(box4 (keepH hX hbx)).1, (box4 (keepH hX hbx)).2.1, (box4 (keepH hX hbx)).2.2.1, (box4 (keepH hX hbx)).2.2.2, HLD.out X hX⟩
        go_upto_region 7 with fail
        go_cut [5, 6] (fun u f wx => ∃ g A c, u = .pointer (some ⟨g, 0, none⟩) ∧ f = .bool ok ∧ wr.heap.size ≤ g ∧ Hid (wx.heap[g]? = some (.cells #[.int .i64 p', .int .i64 v', .slice A es'.length c, .int .i64 m'] 24 (0, 0))) ∧ Hid (EsB wx.heap.size wx (.slice A es'.length c) es') ∧ Hid (Below wr.heap.size wr wx))
        case first =>
          have hQ : Below wr.heap.size wr wr.drew := (Below.refl _ _).drew
          have hH := HS.out _ hQ
          clear hbx HLD her HAK hB HY HN HSM hAQ hlc hl hmay HXE HLV hmy
          refine wp_region_held_drew (S := fun X => X.cell? ⟨g3, 0, none⟩ = some (.int .i64 p) ∧ X.cell? ⟨g3, 1, none⟩ = some (.int .i64 v) ∧ X.cell? ⟨g3, 2, none⟩ = some (.slice Ar es.length cr) ∧ X.cell? ⟨g3, 3, none⟩ = some (.int .i64 m) ∧ (loadVar 27 ⟨b1, o1 + k * 8, none⟩).run Tryd.prog X = .ok (.agg #[.int .i64 ki, .int .i64 st, .int .i64 ep, .int .i64 vi, .int .i64 fr, .int .i64 le, .slice XA xs.length xc, .slice FA fn fc]) X) (by kernel_rfl) hH (fun hHeld => ?_)
          clear hH
          refine wpAnyH_take (i := 0) (v := .agg #[.int .i64 p, .int .i64 v, .slice Ar es.length cr, .int .i64 m]) rfl (by kernel_rfl) (by kernel_rfl) (by kernel_rfl) (fun _ _ _ h => h) (Or.inl ⟨by rfl, ?_⟩) (by assumption) ?_
          · intro X hX
            obtain ⟨a0, a1, a2, a3, -⟩ := hX
            go_simp
          try simp only [List.getElem_toArray, List.getElem_cons_zero]
          try simp only [Act.put, List.setIfInBounds_toArray, List.set_cons_zero, List.set_cons_succ]
          refine wpAnyH_take (i := 1) (v := ?_) rfl (by kernel_rfl) (by kernel_rfl) (by kernel_rfl) (fun _ _ _ h => h) (Or.inl ⟨by rfl, ?_⟩) (by assumption) ?_
          rotate_left
          · intro X hX
            go_simp
            try with_reducible rfl
          try simp only [List.getElem_toArray, List.getElem_cons_succ, List.getElem_cons_zero]
          try simp only [Act.put, List.setIfInBounds_toArray, List.set_cons_zero, List.set_cons_succ]
          refine wpAnyH_take (i := 2) (v := ?_) rfl (by kernel_rfl) (by kernel_rfl) (by kernel_rfl) (fun _ _ _ h => h) (Or.inl ⟨by rfl, ?_⟩) (by assumption) ?_
          rotate_left
          · intro X hX
            go_simp
            try with_reducible rfl
          try simp only [List.getElem_toArray, List.getElem_cons_succ, List.getElem_cons_zero]
          try simp only [Act.put, List.setIfInBounds_toArray, List.set_cons_zero, List.set_cons_succ]
          refine wpAnyH_take (i := 3) (v := ?_) rfl (by kernel_rfl) (by kernel_rfl) (by kernel_rfl) (fun _ _ _ h => h) (Or.inl ⟨by rfl, ?_⟩) (by assumption) ?_
          rotate_left
          · intro X hX
            go_simp
            try with_reducible rfl
          try simp only [List.getElem_toArray, List.getElem_cons_succ, List.getElem_cons_zero]
          try simp only [Act.put, List.setIfInBounds_toArray, List.set_cons_zero, List.set_cons_succ]
          refine wpAnyH_take (i := 4) (v := .agg #[.int .i64 ki, .int .i64 st, .int .i64 ep, .int .i64 vi, .int .i64 fr, .int .i64 le, .slice XA xs.length xc, .slice FA fn fc]) rfl (by kernel_rfl) (by kernel_rfl) (by kernel_rfl) (fun _ _ _ h => h) (Or.inl ⟨by rfl, ?_⟩) (by assumption) ?_
          · intro X hX
            exact run_exec_load 27 (.tmp 22) rfl ⟨b1, o1 + k * 8, none⟩ rfl (hX.2.2.2.2)
          try simp only [List.getElem_toArray, List.getElem_cons_succ, List.getElem_cons_zero]
          try simp only [Act.put, List.setIfInBounds_toArray, List.set_cons_zero, List.set_cons_succ]
          refine wpAnyH_ready (rs := [5,9]) (by kernel_rfl) (by simp) (AllReadyH.cons rfl (fun K hK => ?_) (AllReadyH.cons rfl (fun K hK => ?_) AllReadyH.nil))
          · go_simp
            refine (HV.out _ hQ).mono ?_
            rintro e wm ⟨A', c', rfl, hN, hb⟩
            replace hQ := keepB hQ hb
            clear hb
            have hH := HS.out _ hQ
            go_wp2_with fail
            refine hK.out _ _ ?_ (fun hHeld => ?_)
            · with_reducible exact hH
            clear hK K hH
            try simp only [List.getElem_toArray, List.getElem_cons_succ, List.getElem_cons_zero]
            try simp only [Act.put, List.setIfInBounds_toArray, List.set_cons_zero, List.set_cons_succ]
            refine wpAnyH_take (i := 6) (v := ?_) rfl (by kernel_rfl) (by kernel_rfl) (by kernel_rfl) (fun _ _ _ h => h) (Or.inl ⟨by rfl, ?_⟩) (by assumption) ?_
            rotate_left
            · intro X hX
              go_simp
              try with_reducible rfl
            try simp only [List.getElem_toArray, List.getElem_cons_succ, List.getElem_cons_zero]
            try simp only [Act.put, List.setIfInBounds_toArray, List.set_cons_zero, List.set_cons_succ]
            refine wpAnyH_take (i := 7) (v := ?_) rfl (by kernel_rfl) (by kernel_rfl) (by kernel_rfl) (fun _ _ _ h => h) (Or.inl ⟨by rfl, ?_⟩) (by assumption) ?_
            rotate_left
            · intro X hX
              go_simp
              try with_reducible rfl
            try simp only [List.getElem_toArray, List.getElem_cons_succ, List.getElem_cons_zero]
            try simp only [Act.put, List.setIfInBounds_toArray, List.set_cons_zero, List.set_cons_succ]
            refine wpAnyH_take (i := 8) (v := ?_) rfl (by kernel_rfl) (by kernel_rfl) (by kernel_rfl) (fun _ _ _ h => h) (Or.inl ⟨by rfl, ?_⟩) (by assumption) ?_
            rotate_left
            · intro X hX
              go_simp
              try with_reducible rfl
            try simp only [List.getElem_toArray, List.getElem_cons_succ, List.getElem_cons_zero]
            try simp only [Act.put, List.setIfInBounds_toArray, List.set_cons_zero, List.set_cons_succ]
            refine wpAnyH_ready (rs := [9]) (by kernel_rfl) (by simp) (AllReadyH.cons rfl (fun K hK => ?_) AllReadyH.nil)
            · refine step_alloc_new rfl 24 rfl #[.int .i64 0, .int .i64 0, .slice none 0 0, .int .i64 0] alloc_rg ?_
              intro gF wn hF hgFb hb
              replace hgFb : wr.heap.size ≤ gF := Nat.le_trans hQ.size hgFb
              replace hQ := keepB hQ hb
              replace hN := keepE hb hN
              clear hb
              have hH := HS.out _ hQ
              refine hK.out _ _ ?_ (fun hHeld => ?_)
              · with_reducible exact hH
              clear hK K hH
              try simp only [List.getElem_toArray, List.getElem_cons_succ, List.getElem_cons_zero]
              try simp only [Act.put, List.setIfInBounds_toArray, List.set_cons_zero, List.set_cons_succ]
              refine wpAnyH_ready (rs := [10]) (by kernel_rfl) (by simp) (AllReadyH.cons rfl (fun K hK => ?_) AllReadyH.nil)
              · obtain ⟨wm, HST, hNew, hbl, hzz, hoth⟩ := rg_store (wr.heap.size) (p') (v') (A') (es'.length) (c') (m') hF rfl hgFb
                refine step_store_known rfl 24 _ _ rfl ⟨gF, 0, none⟩ (.agg #[.int .i64 (p'), .int .i64 (v'), .slice (A') (es'.length) (c'), .int .i64 (m')]) (by simp [Act.eval]) (by simp [Act.eval]) HST.out ?_
                replace hQ := hQ.trans hbl
                replace hN := es_store hN hF (by simp) hoth hzz
                replace hF := hNew
                clear HST hNew hbl hzz hoth
                have hH := HS.out _ hQ
                refine hK.out _ _ ?_ (fun hHeld => ?_)
                · with_reducible exact hH
                clear hK K hH
                try simp only [List.getElem_toArray, List.getElem_cons_succ, List.getElem_cons_zero]
                try simp only [Act.put]
                refine wpAnyH_take (i := 11) (v := ?_) rfl (by kernel_rfl) (by kernel_rfl) (by kernel_rfl) (fun _ _ _ h => h) (Or.inl ⟨by rfl, ?_⟩) (by assumption) ?_
                rotate_left
                · intro X hX
                  go_simp
                  try with_reducible rfl
                try simp only [List.getElem_toArray, List.getElem_cons_succ, List.getElem_cons_zero]
                try simp only [Act.put, List.setIfInBounds_toArray, List.set_cons_zero, List.set_cons_succ]
                refine wpAnyH_done (by kernel_rfl) ?_ _
                go_wp2_with fail
                go_meet
                case rel => exact ⟨gF, A', c', rfl, rfl, hgFb, Lib.hid hF, Lib.hid hN, Lib.hid hQ⟩
          · refine step_alloc_new rfl 24 rfl #[.int .i64 0, .int .i64 0, .slice none 0 0, .int .i64 0] alloc_rg ?_
            intro gF wn hF hgFb hb
            replace hgFb : wr.heap.size ≤ gF := Nat.le_trans hQ.size hgFb
            replace hQ := keepB hQ hb
            clear hb
            have hH := HS.out _ hQ
            refine hK.out _ _ ?_ (fun hHeld => ?_)
            · with_reducible exact hH
            clear hK K hH
            try simp only [List.getElem_toArray, List.getElem_cons_succ, List.getElem_cons_zero]
            try simp only [Act.put, List.setIfInBounds_toArray, List.set_cons_zero, List.set_cons_succ]
            refine wpAnyH_ready (rs := [5]) (by kernel_rfl) (by simp) (AllReadyH.cons rfl (fun K hK => ?_) AllReadyH.nil)
            · go_simp
              refine (HV.out _ hQ).mono ?_
              rintro e wm ⟨A', c', rfl, hN, hb⟩
              replace hQ := keepB hQ hb
              replace hF := keepH hb hF
              clear hb
              have hH := HS.out _ hQ
              go_wp2_with fail
              refine hK.out _ _ ?_ (fun hHeld => ?_)
              · with_reducible exact hH
              clear hK K hH
              try simp only [List.getElem_toArray, List.getElem_cons_succ, List.getElem_cons_zero]
              try simp only [Act.put, List.setIfInBounds_toArray, List.set_cons_zero, List.set_cons_succ]
              refine wpAnyH_take (i := 6) (v := ?_) rfl (by kernel_rfl) (by kernel_rfl) (by kernel_rfl) (fun _ _ _ h => h) (Or.inl ⟨by rfl, ?_⟩) (by assumption) ?_
              rotate_left
              · intro X hX
                go_simp
                try with_reducible rfl
              try simp only [List.getElem_toArray, List.getElem_cons_succ, List.getElem_cons_zero]
              try simp only [Act.put, List.setIfInBounds_toArray, List.set_cons_zero, List.set_cons_succ]
              refine wpAnyH_take (i := 7) (v := ?_) rfl (by kernel_rfl) (by kernel_rfl) (by kernel_rfl) (fun _ _ _ h => h) (Or.inl ⟨by rfl, ?_⟩) (by assumption) ?_
              rotate_left
              · intro X hX
                go_simp
                try with_reducible rfl
              try simp only [List.getElem_toArray, List.getElem_cons_succ, List.getElem_cons_zero]
              try simp only [Act.put, List.setIfInBounds_toArray, List.set_cons_zero, List.set_cons_succ]
              refine wpAnyH_take (i := 8) (v := ?_) rfl (by kernel_rfl) (by kernel_rfl) (by kernel_rfl) (fun _ _ _ h => h) (Or.inl ⟨by rfl, ?_⟩) (by assumption) ?_
              rotate_left
              · intro X hX
                go_simp
                try with_reducible rfl
              try simp only [List.getElem_toArray, List.getElem_cons_succ, List.getElem_cons_zero]
              try simp only [Act.put, List.setIfInBounds_toArray, List.set_cons_zero, List.set_cons_succ]
              refine wpAnyH_ready (rs := [10]) (by kernel_rfl) (by simp) (AllReadyH.cons rfl (fun K hK => ?_) AllReadyH.nil)
              · obtain ⟨wm, HST, hNew, hbl, hzz, hoth⟩ := rg_store (wr.heap.size) (p') (v') (A') (es'.length) (c') (m') hF rfl hgFb
                refine step_store_known rfl 24 _ _ rfl ⟨gF, 0, none⟩ (.agg #[.int .i64 (p'), .int .i64 (v'), .slice (A') (es'.length) (c'), .int .i64 (m')]) (by simp [Act.eval]) (by simp [Act.eval]) HST.out ?_
                replace hQ := hQ.trans hbl
                replace hN := es_store hN hF (by simp) hoth hzz
                replace hF := hNew
                clear HST hNew hbl hzz hoth
                have hH := HS.out _ hQ
                refine hK.out _ _ ?_ (fun hHeld => ?_)
                · with_reducible exact hH
                clear hK K hH
                try simp only [List.getElem_toArray, List.getElem_cons_succ, List.getElem_cons_zero]
                try simp only [Act.put]
                refine wpAnyH_take (i := 11) (v := ?_) rfl (by kernel_rfl) (by kernel_rfl) (by kernel_rfl) (fun _ _ _ h => h) (Or.inl ⟨by rfl, ?_⟩) (by assumption) ?_
                rotate_left
                · intro X hX
                  go_simp
                  try with_reducible rfl
                try simp only [List.getElem_toArray, List.getElem_cons_succ, List.getElem_cons_zero]
                try simp only [Act.put, List.setIfInBounds_toArray, List.set_cons_zero, List.set_cons_succ]
                refine wpAnyH_done (by kernel_rfl) ?_ _
                go_wp2_with fail
                go_meet
                case rel => exact ⟨gF, A', c', rfl, rfl, hgFb, Lib.hid hF, Lib.hid hN, Lib.hid hQ⟩
        case rest =>
        obtain ⟨g, A', c', rfl, rfl, hgb, hF, hN, hkp⟩ := hcut
        obtain ⟨w4, he⟩ : ∃ W, W = wc := ⟨_, rfl⟩
        subst he
        replace hkp := hkp.out
        have hbr := keepH hkp hbx
        have her4 := keepE hkp her
        have hB4 := keepB hB hkp
        have HLD4 : Hid (∀ X : World, Below w4.heap.size w4 X → (loadVar 27 ⟨b1, o1 + k * 8, none⟩).run Tryd.prog X = .ok (.agg #[.int .i64 ki, .int .i64 st, .int .i64 ep, .int .i64 vi, .int .i64 fr, .int .i64 le, .slice XA xs.length xc, .slice FA fn fc]) X) := Lib.hid fun X hX => HLD.out X (keepB hkp hX)
        have HXE4 := Lib.hid (fun X (hX : Below w4.heap.size w4 X) => HXE.out X (keepB hkp hX))
        have hA4 := HAK.out _ hB4
        have hF := hF.out
        have hN := hN.out
        clear HS HV hbx her hB HLD HXE
        cases ok with
        | false =>
          have hu := HN.out rfl
          clear HY HN HSM hAQ HXE4 HLD4 hA4 hN hkp
          go_wp2_with fail
          go_roundw
          case rel => exact ⟨k + 1, by omega, rfl, by go_num, hB4, Ar, cr, by rw [hu]; exact hbr, by rw [hu]; exact her4⟩
          case measure => simp [intOf]; omega
        | true =>
          have hu := HY.out rfl
          have hsm := HSM.out rfl
          have hmay' := (app_some hsm).2.2.2
          have hmy' := may_len hmay'
          dsimp only at hmy'
          have hgg : g3 ≠ g := by omega
          have hg4 := lt_of_block hF
          obtain ⟨Q2, hAQ2⟩ : ∃ Q, Hid (appQ ⟨p', v', es', m'⟩ ⟨ki, ep, vi, fr, le, xs⟩ = Q) := ⟨_, Lib.hid rfl⟩
          have HTW : Hid (Q2.2 = true → Q2.1 = ⟨p', v', es', m'⟩) := Lib.hid fun h => app_twice hsm (appQ_some hAQ2.out h)
          obtain ⟨⟨p2, v2, es2, m2⟩, ok2⟩ := Q2
          dsimp only at HTW
          have HV : Hid (∀ X : World, Below w4.heap.size w4 X → Calls Tryd.prog 11 #[.agg #[.int .i64 p', .int .i64 v', .slice A' es'.length c', .int .i64 m'], .agg #[.int .i64 ki, .int .i64 st, .int .i64 ep, .int .i64 vi, .int .i64 fr, .int .i64 le, .slice XA xs.length xc, .slice FA fn fc]] X (BehPost (⟨p2, v2, es2, m2⟩, ok2) X)) := Lib.hid fun X hX => by
            have h := apply_any p' v' m' ki st ep vi fr le es' xs A' XA FA c' xc fn fc X (keepE hX hN) (HXE4.out X hX) (hA4.keep hX) (by omega)
            rw [hAQ2.out] at h
            exact h
          have hbx := hF
          have HLD := HLD4
          clear HY HN HSM hAQ HXE4 HLD4 hkp hsm hmay'
          go_wp2_with fail
          have HS : Hid (∀ X : World, Below w4.heap.size w4 X → X.cell? ⟨g, 0, none⟩ = some (.int .i64 p') ∧ X.cell? ⟨g, 1, none⟩ = some (.int .i64 v') ∧ X.cell? ⟨g, 2, none⟩ = some (.slice A' es'.length c') ∧ X.cell? ⟨g, 3, none⟩ = some (.int .i64 m') ∧ (loadVar 27 ⟨b1, o1 + k * 8, none⟩).run Tryd.prog X = .ok (.agg #[.int .i64 ki, .int .i64 st, .int .i64 ep, .int .i64 vi, .int .i64 fr, .int .i64 le, .slice XA xs.length xc, .slice FA fn fc]) X) := Lib.hid fun X hX => ⟨(box4 (keepH hX hbx)).1, (box4 (keepH hX hbx)).2.1, (box4 (keepH hX hbx)).2.2.1, (box4 (keepH hX hbx)).2.2.2, HLD.out X hX⟩
          go_upto_region 9 with fail
          go_cut [7, 8] (fun u f wx => ∃ g A c, u = .pointer (some ⟨g, 0, none⟩) ∧ f = .bool ok2 ∧ w4.heap.size ≤ g ∧ Hid (wx.heap[g]? = some (.cells #[.int .i64 p2, .int .i64 v2, .slice A es2.length c, .int .i64 m2] 24 (0, 0))) ∧ Hid (EsB wx.heap.size wx (.slice A es2.length c) es2) ∧ Hid (Below w4.heap.size w4 wx))
          case first =>
            have hQ : Below w4.heap.size w4 w4.drew := (Below.refl _ _).drew
            have hH := HS.out _ hQ
            clear hbx HLD hbr her4 hB4 hA4 HTW hF hN hmy' hmay HLV HAK hu hmy hAQ2
            refine wp_region_held_drew (S := fun X => X.cell? ⟨g, 0, none⟩ = some (.int .i64 p') ∧ X.cell? ⟨g, 1, none⟩ = some (.int .i64 v') ∧ X.cell? ⟨g, 2, none⟩ = some (.slice A' es'.length c') ∧ X.cell? ⟨g, 3, none⟩ = some (.int .i64 m') ∧ (loadVar 27 ⟨b1, o1 + k * 8, none⟩).run Tryd.prog X = .ok (.agg #[.int .i64 ki, .int .i64 st, .int .i64 ep, .int .i64 vi, .int .i64 fr, .int .i64 le, .slice XA xs.length xc, .slice FA fn fc]) X) (by kernel_rfl) hH (fun hHeld => ?_)
            clear hH
            refine wpAnyH_take (i := 0) (v := .agg #[.int .i64 p', .int .i64 v', .slice A' es'.length c', .int .i64 m']) rfl (by kernel_rfl) (by kernel_rfl) (by kernel_rfl) (fun _ _ _ h => h) (Or.inl ⟨by rfl, ?_⟩) (by assumption) ?_
            · intro X hX
              obtain ⟨a0, a1, a2, a3, -⟩ := hX
              go_simp
            try simp only [List.getElem_toArray, List.getElem_cons_zero]
            try simp only [Act.put, List.setIfInBounds_toArray, List.set_cons_zero, List.set_cons_succ]
            refine wpAnyH_take (i := 1) (v := ?_) rfl (by kernel_rfl) (by kernel_rfl) (by kernel_rfl) (fun _ _ _ h => h) (Or.inl ⟨by rfl, ?_⟩) (by assumption) ?_
            rotate_left
            · intro X hX
              go_simp
              try with_reducible rfl
            try simp only [List.getElem_toArray, List.getElem_cons_succ, List.getElem_cons_zero]
            try simp only [Act.put, List.setIfInBounds_toArray, List.set_cons_zero, List.set_cons_succ]
            refine wpAnyH_take (i := 2) (v := ?_) rfl (by kernel_rfl) (by kernel_rfl) (by kernel_rfl) (fun _ _ _ h => h) (Or.inl ⟨by rfl, ?_⟩) (by assumption) ?_
            rotate_left
            · intro X hX
              go_simp
              try with_reducible rfl
            try simp only [List.getElem_toArray, List.getElem_cons_succ, List.getElem_cons_zero]
            try simp only [Act.put, List.setIfInBounds_toArray, List.set_cons_zero, List.set_cons_succ]
            refine wpAnyH_take (i := 3) (v := ?_) rfl (by kernel_rfl) (by kernel_rfl) (by kernel_rfl) (fun _ _ _ h => h) (Or.inl ⟨by rfl, ?_⟩) (by assumption) ?_
            rotate_left
            · intro X hX
              go_simp
              try with_reducible rfl
            try simp only [List.getElem_toArray, List.getElem_cons_succ, List.getElem_cons_zero]
            try simp only [Act.put, List.setIfInBounds_toArray, List.set_cons_zero, List.set_cons_succ]
            refine wpAnyH_take (i := 4) (v := .agg #[.int .i64 ki, .int .i64 st, .int .i64 ep, .int .i64 vi, .int .i64 fr, .int .i64 le, .slice XA xs.length xc, .slice FA fn fc]) rfl (by kernel_rfl) (by kernel_rfl) (by kernel_rfl) (fun _ _ _ h => h) (Or.inl ⟨by rfl, ?_⟩) (by assumption) ?_
            · intro X hX
              exact run_exec_load 27 (.tmp 33) rfl ⟨b1, o1 + k * 8, none⟩ rfl (hX.2.2.2.2)
            try simp only [List.getElem_toArray, List.getElem_cons_succ, List.getElem_cons_zero]
            try simp only [Act.put, List.setIfInBounds_toArray, List.set_cons_zero, List.set_cons_succ]
            refine wpAnyH_ready (rs := [5,9]) (by kernel_rfl) (by simp) (AllReadyH.cons rfl (fun K hK => ?_) (AllReadyH.cons rfl (fun K hK => ?_) AllReadyH.nil))
            · go_simp
              refine (HV.out _ hQ).mono ?_
              rintro e wm ⟨A', c', rfl, hN, hb⟩
              replace hQ := keepB hQ hb
              clear hb
              have hH := HS.out _ hQ
              go_wp2_with fail
              refine hK.out _ _ ?_ (fun hHeld => ?_)
              · with_reducible exact hH
              clear hK K hH
              try simp only [List.getElem_toArray, List.getElem_cons_succ, List.getElem_cons_zero]
              try simp only [Act.put, List.setIfInBounds_toArray, List.set_cons_zero, List.set_cons_succ]
              refine wpAnyH_take (i := 6) (v := ?_) rfl (by kernel_rfl) (by kernel_rfl) (by kernel_rfl) (fun _ _ _ h => h) (Or.inl ⟨by rfl, ?_⟩) (by assumption) ?_
              rotate_left
              · intro X hX
                go_simp
                try with_reducible rfl
              try simp only [List.getElem_toArray, List.getElem_cons_succ, List.getElem_cons_zero]
              try simp only [Act.put, List.setIfInBounds_toArray, List.set_cons_zero, List.set_cons_succ]
              refine wpAnyH_take (i := 7) (v := ?_) rfl (by kernel_rfl) (by kernel_rfl) (by kernel_rfl) (fun _ _ _ h => h) (Or.inl ⟨by rfl, ?_⟩) (by assumption) ?_
              rotate_left
              · intro X hX
                go_simp
                try with_reducible rfl
              try simp only [List.getElem_toArray, List.getElem_cons_succ, List.getElem_cons_zero]
              try simp only [Act.put, List.setIfInBounds_toArray, List.set_cons_zero, List.set_cons_succ]
              refine wpAnyH_take (i := 8) (v := ?_) rfl (by kernel_rfl) (by kernel_rfl) (by kernel_rfl) (fun _ _ _ h => h) (Or.inl ⟨by rfl, ?_⟩) (by assumption) ?_
              rotate_left
              · intro X hX
                go_simp
                try with_reducible rfl
              try simp only [List.getElem_toArray, List.getElem_cons_succ, List.getElem_cons_zero]
              try simp only [Act.put, List.setIfInBounds_toArray, List.set_cons_zero, List.set_cons_succ]
              refine wpAnyH_ready (rs := [9]) (by kernel_rfl) (by simp) (AllReadyH.cons rfl (fun K hK => ?_) AllReadyH.nil)
              · refine step_alloc_new rfl 24 rfl #[.int .i64 0, .int .i64 0, .slice none 0 0, .int .i64 0] alloc_rg ?_
                intro gF wn hF hgFb hb
                replace hgFb : w4.heap.size ≤ gF := Nat.le_trans hQ.size hgFb
                replace hQ := keepB hQ hb
                replace hN := keepE hb hN
                clear hb
                have hH := HS.out _ hQ
                refine hK.out _ _ ?_ (fun hHeld => ?_)
                · with_reducible exact hH
                clear hK K hH
                try simp only [List.getElem_toArray, List.getElem_cons_succ, List.getElem_cons_zero]
                try simp only [Act.put, List.setIfInBounds_toArray, List.set_cons_zero, List.set_cons_succ]
                refine wpAnyH_ready (rs := [10]) (by kernel_rfl) (by simp) (AllReadyH.cons rfl (fun K hK => ?_) AllReadyH.nil)
                · obtain ⟨wm, HST, hNew, hbl, hzz, hoth⟩ := rg_store (w4.heap.size) (p2) (v2) (A') (es2.length) (c') (m2) hF rfl hgFb
                  refine step_store_known rfl 24 _ _ rfl ⟨gF, 0, none⟩ (.agg #[.int .i64 (p2), .int .i64 (v2), .slice (A') (es2.length) (c'), .int .i64 (m2)]) (by simp [Act.eval]) (by simp [Act.eval]) HST.out ?_
                  replace hQ := hQ.trans hbl
                  replace hN := es_store hN hF (by simp) hoth hzz
                  replace hF := hNew
                  clear HST hNew hbl hzz hoth
                  have hH := HS.out _ hQ
                  refine hK.out _ _ ?_ (fun hHeld => ?_)
                  · with_reducible exact hH
                  clear hK K hH
                  try simp only [List.getElem_toArray, List.getElem_cons_succ, List.getElem_cons_zero]
                  try simp only [Act.put]
                  refine wpAnyH_take (i := 11) (v := ?_) rfl (by kernel_rfl) (by kernel_rfl) (by kernel_rfl) (fun _ _ _ h => h) (Or.inl ⟨by rfl, ?_⟩) (by assumption) ?_
                  rotate_left
                  · intro X hX
                    go_simp
                    try with_reducible rfl
                  try simp only [List.getElem_toArray, List.getElem_cons_succ, List.getElem_cons_zero]
                  try simp only [Act.put, List.setIfInBounds_toArray, List.set_cons_zero, List.set_cons_succ]
                  refine wpAnyH_done (by kernel_rfl) ?_ _
                  go_wp2_with fail
                  go_meet
                  case rel => exact ⟨gF, A', c', rfl, rfl, hgFb, Lib.hid hF, Lib.hid hN, Lib.hid hQ⟩
            · refine step_alloc_new rfl 24 rfl #[.int .i64 0, .int .i64 0, .slice none 0 0, .int .i64 0] alloc_rg ?_
              intro gF wn hF hgFb hb
              replace hgFb : w4.heap.size ≤ gF := Nat.le_trans hQ.size hgFb
              replace hQ := keepB hQ hb
              clear hb
              have hH := HS.out _ hQ
              refine hK.out _ _ ?_ (fun hHeld => ?_)
              · with_reducible exact hH
              clear hK K hH
              try simp only [List.getElem_toArray, List.getElem_cons_succ, List.getElem_cons_zero]
              try simp only [Act.put, List.setIfInBounds_toArray, List.set_cons_zero, List.set_cons_succ]
              refine wpAnyH_ready (rs := [5]) (by kernel_rfl) (by simp) (AllReadyH.cons rfl (fun K hK => ?_) AllReadyH.nil)
              · go_simp
                refine (HV.out _ hQ).mono ?_
                rintro e wm ⟨A', c', rfl, hN, hb⟩
                replace hQ := keepB hQ hb
                replace hF := keepH hb hF
                clear hb
                have hH := HS.out _ hQ
                go_wp2_with fail
                refine hK.out _ _ ?_ (fun hHeld => ?_)
                · with_reducible exact hH
                clear hK K hH
                try simp only [List.getElem_toArray, List.getElem_cons_succ, List.getElem_cons_zero]
                try simp only [Act.put, List.setIfInBounds_toArray, List.set_cons_zero, List.set_cons_succ]
                refine wpAnyH_take (i := 6) (v := ?_) rfl (by kernel_rfl) (by kernel_rfl) (by kernel_rfl) (fun _ _ _ h => h) (Or.inl ⟨by rfl, ?_⟩) (by assumption) ?_
                rotate_left
                · intro X hX
                  go_simp
                  try with_reducible rfl
                try simp only [List.getElem_toArray, List.getElem_cons_succ, List.getElem_cons_zero]
                try simp only [Act.put, List.setIfInBounds_toArray, List.set_cons_zero, List.set_cons_succ]
                refine wpAnyH_take (i := 7) (v := ?_) rfl (by kernel_rfl) (by kernel_rfl) (by kernel_rfl) (fun _ _ _ h => h) (Or.inl ⟨by rfl, ?_⟩) (by assumption) ?_
                rotate_left
                · intro X hX
                  go_simp
                  try with_reducible rfl
                try simp only [List.getElem_toArray, List.getElem_cons_succ, List.getElem_cons_zero]
                try simp only [Act.put, List.setIfInBounds_toArray, List.set_cons_zero, List.set_cons_succ]
                refine wpAnyH_take (i := 8) (v := ?_) rfl (by kernel_rfl) (by kernel_rfl) (by kernel_rfl) (fun _ _ _ h => h) (Or.inl ⟨by rfl, ?_⟩) (by assumption) ?_
                rotate_left
                · intro X hX
                  go_simp
                  try with_reducible rfl
                try simp only [List.getElem_toArray, List.getElem_cons_succ, List.getElem_cons_zero]
                try simp only [Act.put, List.setIfInBounds_toArray, List.set_cons_zero, List.set_cons_succ]
                refine wpAnyH_ready (rs := [10]) (by kernel_rfl) (by simp) (AllReadyH.cons rfl (fun K hK => ?_) AllReadyH.nil)
                · obtain ⟨wm, HST, hNew, hbl, hzz, hoth⟩ := rg_store (w4.heap.size) (p2) (v2) (A') (es2.length) (c') (m2) hF rfl hgFb
                  refine step_store_known rfl 24 _ _ rfl ⟨gF, 0, none⟩ (.agg #[.int .i64 (p2), .int .i64 (v2), .slice (A') (es2.length) (c'), .int .i64 (m2)]) (by simp [Act.eval]) (by simp [Act.eval]) HST.out ?_
                  replace hQ := hQ.trans hbl
                  replace hN := es_store hN hF (by simp) hoth hzz
                  replace hF := hNew
                  clear HST hNew hbl hzz hoth
                  have hH := HS.out _ hQ
                  refine hK.out _ _ ?_ (fun hHeld => ?_)
                  · with_reducible exact hH
                  clear hK K hH
                  try simp only [List.getElem_toArray, List.getElem_cons_succ, List.getElem_cons_zero]
                  try simp only [Act.put]
                  refine wpAnyH_take (i := 11) (v := ?_) rfl (by kernel_rfl) (by kernel_rfl) (by kernel_rfl) (fun _ _ _ h => h) (Or.inl ⟨by rfl, ?_⟩) (by assumption) ?_
                  rotate_left
                  · intro X hX
                    go_simp
                    try with_reducible rfl
                  try simp only [List.getElem_toArray, List.getElem_cons_succ, List.getElem_cons_zero]
                  try simp only [Act.put, List.setIfInBounds_toArray, List.set_cons_zero, List.set_cons_succ]
                  refine wpAnyH_done (by kernel_rfl) ?_ _
                  go_wp2_with fail
                  go_meet
                  case rel => exact ⟨gF, A', c', rfl, rfl, hgFb, Lib.hid hF, Lib.hid hN, Lib.hid hQ⟩
          case rest =>
          obtain ⟨gb, A2, c2, rfl, rfl, hgb2, hF2, hN2, hkp⟩ := hcut
          obtain ⟨w5, he⟩ : ∃ W, W = wc := ⟨_, rfl⟩
          subst he
          replace hkp := hkp.out
          have hbr5 := keepH hkp hbr
          have hF5 := keepH hkp hF
          have hN5 := keepE hkp hN
          have hB5 := keepB hB4 hkp
          have hF2 := hF2.out
          have hN2 := hN2.out
          clear HS HV hbx hbr her4 hB4 hA4 hF hN HLD hmay
          cases ok2 with
          | false =>
            clear HTW hAQ2 hN2 hF2
            obtain ⟨n0, n1, n2, n3⟩ := box4 hF5
            obtain ⟨w7, HST, hbx7, hbl, hzz, hoth⟩ := rg_store w.heap.size p' v' A' es'.length c' m' hbr5 rfl hgw
            have hN7 := es_store hN5 hbr5 (by simp) hoth hzz
            have hB7 := hB5.trans hbl
            clear hN5 hbr5 hF5 hB5 hbl hoth hkp
            go_wp2_with (with_reducible refine wpList_store_known (by rfl) 24 _ _ (by rfl) ⟨g3, 0, none⟩ _ (by with_unfolding_all rfl) (by with_unfolding_all rfl) HST.out ?_)
            go_roundw
            case rel => exact ⟨k + 1, by omega, rfl, by go_num, hB7, A', c', by rw [hu]; exact hbx7, by rw [hu]; exact hN7⟩
            case measure => simp [intOf]; omega
          | true =>
            have he := HTW.out rfl
            injection he with e1 e2 e3 e4
            subst e1 e2 e3 e4
            have HS := Lib.hid (sameReg_any p2 v2 m2 p2 v2 m2 w5 hN5 hN2)
            rw [show decide (Re.mk p2 v2 es2 m2 = Re.mk p2 v2 es2 m2) = true by simp] at HS
            obtain ⟨n0, n1, n2, n3⟩ := box4 hF5
            obtain ⟨k0, k1, k2, k3⟩ := box4 hF2
            clear HTW hAQ2 hN2 hF2
            go_wp2_with fail
            refine (HS.out).mono ?_
            rintro e w6 ⟨rfl, hk6⟩
            have hbr6 := keepH hk6 hbr5
            have hF6 := keepH hk6 hF5
            have hN6 := keepE hk6 hN5
            have hB6 := keepB hB5 hk6
            clear HS hbr5 hF5 hN5 hB5 n0 n1 n2 n3 k0 k1 k2 k3
            obtain ⟨n0, n1, n2, n3⟩ := box4 hF6
            obtain ⟨w7, HST, hbx7, hbl, hzz, hoth⟩ := rg_store w.heap.size p2 v2 A' es2.length c' m2 hbr6 rfl hgw
            have hN7 := es_store hN6 hbr6 (by simp) hoth hzz
            have hB7 := hB6.trans hbl
            clear hN6 hbr6 hF6 hB6 hbl hoth hkp hk6
            go_wp2_with (with_reducible refine wpList_store_known (by rfl) 24 _ _ (by rfl) ⟨g3, 0, none⟩ _ (by with_unfolding_all rfl) (by with_unfolding_all rfl) HST.out ?_)
            go_roundw
            case rel => exact ⟨k + 1, by omega, rfl, by go_num, hB7, A', c', by rw [hu]; exact hbx7, by rw [hu]; exact hN7⟩
            case measure => simp [intOf]; omega
      · obtain rfl : k = l.length := by omega
        have hii : ¬ (l.length : Int) < (l.length : Int) := by omega
        clear HAT HAK hl100 hR
        go_wp2_with fail
        refine (HLV.out wr hB).mono ?_
        rintro e w2 ⟨rfl, hb2⟩
        go_wp2_with fail
        go_ret
        exact ⟨rfl, keepB hB hb2⟩
end Go.Proofs.YtnbhdehpdfojlaaDoor.registerTwiceW
