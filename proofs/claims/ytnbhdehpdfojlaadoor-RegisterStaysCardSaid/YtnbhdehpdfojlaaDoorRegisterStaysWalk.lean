/-
  RegisterStays: the walk.
-/
import Derived.Test.YtnbhdehpdfojlaaDoorRgPure
import Derived.Test.YtnbhdehpdfojlaaDoorRgLives
namespace Go.Proofs.YtnbhdehpdfojlaaDoor.registerStaysW
open Go.RowKit Go.Sort
set_option maxRecDepth 100000 in
set_option maxHeartbeats 16000000 in
theorem walk (A : Option Addr) (c : Nat) (l : List RcE) (w : World) (hA : Asked w) (h : RcsB w.heap.size w (.slice A l.length c) l) : Calls Tryd.prog 5 #[.slice A l.length c] w (fun e w' => e = .returned (.bool true) ∧ Below w.heap.size w w') := by
  have HBY := Lib.hid (beyond_any h)
  have HLV := Lib.hid (fun X (hX : Below w.heap.size w X) => lives_any X (hA.keep hX))
  cases hb : beyB l with
  | true =>
    rw [hb] at HBY
    clear hb h hA
    go_enter Tryd.func5, Tryd.ntmps5
    go_wp2_with fail
    refine (HBY.out).mono ?_
    rintro e w1 ⟨rfl, hb1⟩
    go_wp2_with fail
    refine (HLV.out w1 hb1).mono ?_
    rintro e w2 ⟨rfl, hb2⟩
    go_wp2_with fail
    go_ret
    exact ⟨rfl, keepB hb1 hb2⟩
  | false =>
    rw [hb] at HBY
    obtain ⟨-, hl100⟩ := beyB_no hb
    replace hl100 := Lib.hid hl100
    have HAT := Lib.hid (fun X (hX : Below w.heap.size w X) k (hk : k < l.length) => (h.keep hX).at_ hk)
    have HAK := Lib.hid (fun X (hX : Below w.heap.size w X) => hA.keep hX)
    have hln := h.len
    have hl : l.length ≤ maxLen := by omega
    unfold maxLen at hl
    have hlc := hln.2.1
    clear h hln hA hb
    go_enter Tryd.func5, Tryd.ntmps5
    go_wp2_with fail
    refine (HBY.out).mono ?_
    rintro e w1 ⟨rfl, hb1⟩
    obtain ⟨g3, hg3⟩ : ∃ g, Hid (g = w1.heap.size) := ⟨_, Lib.hid rfl⟩
    obtain ⟨w2, HX2⟩ : ∃ W : World, Hid (W = w1.alloc (.cells #[.int .i64 0, .int .i64 0, .slice none 0 0, .int .i64 0] 24)) := ⟨_, Lib.hid rfl⟩
    have hb2 : Below w.heap.size w w2 := by rw [HX2.out]; exact keepB hb1 (below_new _ _)
    have hr2 : w2.heap[g3]? = some (.cells #[.int .i64 0, .int .i64 0, .slice none 0 0, .int .i64 0] 24 (0, 0)) := by rw [HX2.out, hg3.out]; exact heap_alloc_new _ _
    have hgw : w.heap.size ≤ g3 := by rw [hg3.out]; exact hb1.size
    go_wp2_with ((rw [← HX2.out]); try rw [← hg3.out])
    clear HBY hb1 HX2 hg3
    go_loopw [2, 4] (fun r i wr => ∃ k : Nat, k ≤ l.length ∧ r = .bool false ∧ i = .int .i64 k ∧ Below w.heap.size w wr ∧ RAt wr g3 (upR l k)) (fun _ i _ => l.length - (intOf i).toNat)
    case atStart => exact ⟨0, Nat.zero_le _, rfl, rfl, hb2, none, 0, by rw [upR_zero]; exact hr2, by rw [upR_zero]; exact es_nil _ _⟩
    case round =>
      clear hb2 hr2
      obtain ⟨k, hk, rfl, rfl, hB, hR⟩ := hrel
      by_cases hlt : k < l.length
      · obtain ⟨b1, o1, rfl, hb1l, hld, hxe, -⟩ := HAT.out wr hB k hlt
        have hii : (k : Int) < (l.length : Int) := by omega
        have hx100 := hl100.out k hlt
        obtain ⟨Ar, cr, hbx, her⟩ := hR
        have hg3l := lt_of_block hbx
        have hmay := upR_may l k
        have hmy := may_len hmay
        obtain ⟨Q, hAQ⟩ : ∃ Q, Hid (appQ (upR l k) l[k].x = Q) := ⟨_, Lib.hid rfl⟩
        have HY := Lib.hid (fun h => upR_yes hlt hAQ.out h)
        have HN := Lib.hid (fun h => upR_no hlt hAQ.out h)
        have HSM := Lib.hid (fun h => appQ_some hAQ.out h)
        have HLD := Lib.hid hld
        have HXE := Lib.hid hxe
        replace hmay := Lib.hid hmay
        generalize upR l k = r at *
        clear hld hxe HAT hl100 hb1l
        generalize l[k] = rk at *
        obtain ⟨⟨ki, ep, vi, fr, le, xs⟩, st, XA, xc, FA, fn, fc⟩ := rk
        obtain ⟨p, v, es, m⟩ := r
        obtain ⟨⟨p', v', es', m'⟩, ok⟩ := Q
        simp only [RcE.cells] at HLD
        dsimp only at hbx her hmy hx100 HXE HY HN HSM
        have HV : Hid (∀ X : World, Below wr.heap.size wr X → Calls Tryd.prog 11 #[.agg #[.int .i64 p, .int .i64 v, .slice Ar es.length cr, .int .i64 m], .agg #[.int .i64 ki, .int .i64 st, .int .i64 ep, .int .i64 vi, .int .i64 fr, .int .i64 le, .slice XA xs.length xc, .slice FA fn fc]] X (BehPost (⟨p', v', es', m'⟩, ok) X)) := Lib.hid fun X hX => by
          have h := apply_any p v m ki st ep vi fr le es xs Ar XA FA cr xc fn fc X (keepE hX her) (HXE.out X hX) (HAK.out X (keepB hB hX)) (by omega)
          rw [hAQ.out] at h
          exact h
        have HS : Hid (∀ X : World, Below wr.heap.size wr X → X.cell? ⟨g3, 0, none⟩ = some (.int .i64 p) ∧ X.cell? ⟨g3, 1, none⟩ = some (.int .i64 v) ∧ X.cell? ⟨g3, 2, none⟩ = some (.slice Ar es.length cr) ∧ X.cell? ⟨g3, 3, none⟩ = some (.int .i64 m) ∧ (loadVar 27 ⟨b1, o1 + k * 8, none⟩).run Tryd.prog X = .ok (.agg #[.int .i64 ki, .int .i64 st, .int .i64 ep, .int .i64 vi, .int .i64 fr, .int .i64 le, .slice XA xs.length xc, .slice FA fn fc]) X) := Lib.hid fun X hX => ⟨(box4 (keepH hX hbx)).1, (box4 (keepH hX hbx)).2.1, (box4 (keepH hX hbx)).2.2.1, (box4 (keepH hX hbx)).2.2.2, HLD.out X hX⟩
        go_upto_region 7 with fail
        go_cut [5, 6] (fun u f wx => ∃ g A c, u = .pointer (some ⟨g, 0, none⟩) ∧ f = .bool ok ∧ wr.heap.size ≤ g ∧ Hid (wx.heap[g]? = some (.cells #[.int .i64 p', .int .i64 v', .slice A es'.length c, .int .i64 m'] 24 (0, 0))) ∧ Hid (EsB wx.heap.size wx (.slice A es'.length c) es') ∧ Hid (Below wr.heap.size wr wx))
        case first =>
          have hQ : Below wr.heap.size wr wr.drew := (Below.refl _ _).drew
          have hH := HS.out _ hQ
          clear hbx HLD her HAK hB HY HN HSM hAQ hlc hl hmay HXE HLV hmy
          refine wp_region_held_drew (S := fun X => X.cell? ⟨g3, 0, none⟩ = some (.int .i64 p) ∧ X.cell? ⟨g3, 1, none⟩ = some (.int .i64 v) ∧ X.cell? ⟨g3, 2, none⟩ = some (.slice Ar es.length cr) ∧ X.cell? ⟨g3, 3, none⟩ = some (.int .i64 m) ∧ (loadVar 27 ⟨b1, o1 + k * 8, none⟩).run Tryd.prog X = .ok (.agg #[.int .i64 ki, .int .i64 st, .int .i64 ep, .int .i64 vi, .int .i64 fr, .int .i64 le, .slice XA xs.length xc, .slice FA fn fc]) X) (by kernel_rfl) hH (fun hHeld => ?_)
          clear hH
          refine wpAnyH_take (i := 0) (v := .agg #[.int .i64 p, .int .i64 v, .slice Ar es.length cr, .int .i64 m]) rfl (by kernel_rfl) (by kernel_rfl) (by kernel_rfl) (fun _ _ _ h => h) (Or.inl ⟨by rfl, ?_⟩) (by assumption) ?_
          · intro X hX
            obtain ⟨a0, a1, a2, a3, -⟩ := hX
            go_simp
          try simp only [List.getElem_toArray, List.getElem_cons_zero]
          try simp only [Act.put, List.setIfInBounds_toArray, List.set_cons_zero, List.set_cons_succ]
          refine wpAnyH_take (i := 1) (v := ?_) rfl (by kernel_rfl) (by kernel_rfl) (by kernel_rfl) (fun _ _ _ h => h) (Or.inl ⟨by rfl, ?_⟩) (by assumption) ?_
          rotate_left
          · intro X hX
            go_simp
            try with_reducible rfl
          try simp only [List.getElem_toArray, List.getElem_cons_succ, List.getElem_cons_zero]
          try simp only [Act.put, List.setIfInBounds_toArray, List.set_cons_zero, List.set_cons_succ]
          refine wpAnyH_take (i := 2) (v := ?_) rfl (by kernel_rfl) (by kernel_rfl) (by kernel_rfl) (fun _ _ _ h => h) (Or.inl ⟨by rfl, ?_⟩) (by assumption) ?_
          rotate_left
          · intro X hX
            go_simp
            try with_reducible rfl
          try simp only [List.getElem_toArray, List.getElem_cons_succ, List.getElem_cons_zero]
          try simp only [Act.put, List.setIfInBounds_toArray, List.set_cons_zero, List.set_cons_succ]
          refine wpAnyH_take (i := 3) (v := ?_) rfl (by kernel_rfl) (by kernel_rfl) (by kernel_rfl) (fun _ _ _ h => h) (Or.inl ⟨by rfl, ?_⟩) (by assumption) ?_
          rotate_left
          · intro X hX
            go_simp
            try with_reducible rfl
          try simp only [List.getElem_toArray, List.getElem_cons_succ, List.getElem_cons_zero]
          try simp only [Act.put, List.setIfInBounds_toArray, List.set_cons_zero, List.set_cons_succ]
          refine wpAnyH_take (i := 4) (v := .agg #[.int .i64 ki, .int .i64 st, .int .i64 ep, .int .i64 vi, .int .i64 fr, .int .i64 le, .slice XA xs.length xc, .slice FA fn fc]) rfl (by kernel_rfl) (by kernel_rfl) (by kernel_rfl) (fun _ _ _ h => h) (Or.inl ⟨by rfl, ?_⟩) (by assumption) ?_
          · intro X hX
            exact run_exec_load 27 (.tmp 21) rfl ⟨b1, o1 + k * 8, none⟩ rfl (hX.2.2.2.2)
          try simp only [List.getElem_toArray, List.getElem_cons_succ, List.getElem_cons_zero]
          try simp only [Act.put, List.setIfInBounds_toArray, List.set_cons_zero, List.set_cons_succ]
          refine wpAnyH_ready (rs := [5,9]) (by kernel_rfl) (by simp) (AllReadyH.cons rfl (fun K hK => ?_) (AllReadyH.cons rfl (fun K hK => ?_) AllReadyH.nil))
          · go_simp
            refine (HV.out _ hQ).mono ?_
            rintro e wm ⟨A', c', rfl, hN, hb⟩
            replace hQ := keepB hQ hb
            clear hb
            have hH := HS.out _ hQ
            go_wp2_with fail
            refine hK.out _ _ ?_ (fun hHeld => ?_)
            · with_reducible exact hH
            clear hK K hH
            try simp only [List.getElem_toArray, List.getElem_cons_succ, List.getElem_cons_zero]
            try simp only [Act.put, List.setIfInBounds_toArray, List.set_cons_zero, List.set_cons_succ]
            refine wpAnyH_take (i := 6) (v := ?_) rfl (by kernel_rfl) (by kernel_rfl) (by kernel_rfl) (fun _ _ _ h => h) (Or.inl ⟨by rfl, ?_⟩) (by assumption) ?_
            rotate_left
            · intro X hX
              go_simp
              try with_reducible rfl
            try simp only [List.getElem_toArray, List.getElem_cons_succ, List.getElem_cons_zero]
            try simp only [Act.put, List.setIfInBounds_toArray, List.set_cons_zero, List.set_cons_succ]
            refine wpAnyH_take (i := 7) (v := ?_) rfl (by kernel_rfl) (by kernel_rfl) (by kernel_rfl) (fun _ _ _ h => h) (Or.inl ⟨by rfl, ?_⟩) (by assumption) ?_
            rotate_left
            · intro X hX
              go_simp
              try with_reducible rfl
            try simp only [List.getElem_toArray, List.getElem_cons_succ, List.getElem_cons_zero]
            try simp only [Act.put, List.setIfInBounds_toArray, List.set_cons_zero, List.set_cons_succ]
            refine wpAnyH_take (i := 8) (v := ?_) rfl (by kernel_rfl) (by kernel_rfl) (by kernel_rfl) (fun _ _ _ h => h) (Or.inl ⟨by rfl, ?_⟩) (by assumption) ?_
            rotate_left
            · intro X hX
              go_simp
              try with_reducible rfl
            try simp only [List.getElem_toArray, List.getElem_cons_succ, List.getElem_cons_zero]
            try simp only [Act.put, List.setIfInBounds_toArray, List.set_cons_zero, List.set_cons_succ]
            refine wpAnyH_ready (rs := [9]) (by kernel_rfl) (by simp) (AllReadyH.cons rfl (fun K hK => ?_) AllReadyH.nil)
            · refine step_alloc_new rfl 24 rfl #[.int .i64 0, .int .i64 0, .slice none 0 0, .int .i64 0] alloc_rg ?_
              intro gF wn hF hgFb hb
              replace hgFb : wr.heap.size ≤ gF := Nat.le_trans hQ.size hgFb
              replace hQ := keepB hQ hb
              replace hN := keepE hb hN
              clear hb
              have hH := HS.out _ hQ
              refine hK.out _ _ ?_ (fun hHeld => ?_)
              · with_reducible exact hH
              clear hK K hH
              try simp only [List.getElem_toArray, List.getElem_cons_succ, List.getElem_cons_zero]
              try simp only [Act.put, List.setIfInBounds_toArray, List.set_cons_zero, List.set_cons_succ]
              refine wpAnyH_ready (rs := [10]) (by kernel_rfl) (by simp) (AllReadyH.cons rfl (fun K hK => ?_) AllReadyH.nil)
              · obtain ⟨wm, HST, hNew, hbl, hzz, hoth⟩ := rg_store (wr.heap.size) (p') (v') (A') (es'.length) (c') (m') hF rfl hgFb
                refine step_store_known rfl 24 _ _ rfl ⟨gF, 0, none⟩ (.agg #[.int .i64 (p'), .int .i64 (v'), .slice (A') (es'.length) (c'), .int .i64 (m')]) (by simp [Act.eval]) (by simp [Act.eval]) HST.out ?_
                replace hQ := hQ.trans hbl
                replace hN := es_store hN hF (by simp) hoth hzz
                replace hF := hNew
                clear HST hNew hbl hzz hoth
                have hH := HS.out _ hQ
                refine hK.out _ _ ?_ (fun hHeld => ?_)
                · with_reducible exact hH
                clear hK K hH
                try simp only [List.getElem_toArray, List.getElem_cons_succ, List.getElem_cons_zero]
                try simp only [Act.put]
                refine wpAnyH_take (i := 11) (v := ?_) rfl (by kernel_rfl) (by kernel_rfl) (by kernel_rfl) (fun _ _ _ h => h) (Or.inl ⟨by rfl, ?_⟩) (by assumption) ?_
                rotate_left
                · intro X hX
                  go_simp
                  try with_reducible rfl
                try simp only [List.getElem_toArray, List.getElem_cons_succ, List.getElem_cons_zero]
                try simp only [Act.put, List.setIfInBounds_toArray, List.set_cons_zero, List.set_cons_succ]
                refine wpAnyH_done (by kernel_rfl) ?_ _
                go_wp2_with fail
                go_meet
                case rel => exact ⟨gF, A', c', rfl, rfl, hgFb, Lib.hid hF, Lib.hid hN, Lib.hid hQ⟩
          · refine step_alloc_new rfl 24 rfl #[.int .i64 0, .int .i64 0, .slice none 0 0, .int .i64 0] alloc_rg ?_
            intro gF wn hF hgFb hb
            replace hgFb : wr.heap.size ≤ gF := Nat.le_trans hQ.size hgFb
            replace hQ := keepB hQ hb
            clear hb
            have hH := HS.out _ hQ
            refine hK.out _ _ ?_ (fun hHeld => ?_)
            · with_reducible exact hH
            clear hK K hH
            try simp only [List.getElem_toArray, List.getElem_cons_succ, List.getElem_cons_zero]
            try simp only [Act.put, List.setIfInBounds_toArray, List.set_cons_zero, List.set_cons_succ]
            refine wpAnyH_ready (rs := [5]) (by kernel_rfl) (by simp) (AllReadyH.cons rfl (fun K hK => ?_) AllReadyH.nil)
            · go_simp
              refine (HV.out _ hQ).mono ?_
              rintro e wm ⟨A', c', rfl, hN, hb⟩
              replace hQ := keepB hQ hb
              replace hF := keepH hb hF
              clear hb
              have hH := HS.out _ hQ
              go_wp2_with fail
              refine hK.out _ _ ?_ (fun hHeld => ?_)
              · with_reducible exact hH
              clear hK K hH
              try simp only [List.getElem_toArray, List.getElem_cons_succ, List.getElem_cons_zero]
              try simp only [Act.put, List.setIfInBounds_toArray, List.set_cons_zero, List.set_cons_succ]
              refine wpAnyH_take (i := 6) (v := ?_) rfl (by kernel_rfl) (by kernel_rfl) (by kernel_rfl) (fun _ _ _ h => h) (Or.inl ⟨by rfl, ?_⟩) (by assumption) ?_
              rotate_left
              · intro X hX
                go_simp
                try with_reducible rfl
              try simp only [List.getElem_toArray, List.getElem_cons_succ, List.getElem_cons_zero]
              try simp only [Act.put, List.setIfInBounds_toArray, List.set_cons_zero, List.set_cons_succ]
              refine wpAnyH_take (i := 7) (v := ?_) rfl (by kernel_rfl) (by kernel_rfl) (by kernel_rfl) (fun _ _ _ h => h) (Or.inl ⟨by rfl, ?_⟩) (by assumption) ?_
              rotate_left
              · intro X hX
                go_simp
                try with_reducible rfl
              try simp only [List.getElem_toArray, List.getElem_cons_succ, List.getElem_cons_zero]
              try simp only [Act.put, List.setIfInBounds_toArray, List.set_cons_zero, List.set_cons_succ]
              refine wpAnyH_take (i := 8) (v := ?_) rfl (by kernel_rfl) (by kernel_rfl) (by kernel_rfl) (fun _ _ _ h => h) (Or.inl ⟨by rfl, ?_⟩) (by assumption) ?_
              rotate_left
              · intro X hX
                go_simp
                try with_reducible rfl
              try simp only [List.getElem_toArray, List.getElem_cons_succ, List.getElem_cons_zero]
              try simp only [Act.put, List.setIfInBounds_toArray, List.set_cons_zero, List.set_cons_succ]
              refine wpAnyH_ready (rs := [10]) (by kernel_rfl) (by simp) (AllReadyH.cons rfl (fun K hK => ?_) AllReadyH.nil)
              · obtain ⟨wm, HST, hNew, hbl, hzz, hoth⟩ := rg_store (wr.heap.size) (p') (v') (A') (es'.length) (c') (m') hF rfl hgFb
                refine step_store_known rfl 24 _ _ rfl ⟨gF, 0, none⟩ (.agg #[.int .i64 (p'), .int .i64 (v'), .slice (A') (es'.length) (c'), .int .i64 (m')]) (by simp [Act.eval]) (by simp [Act.eval]) HST.out ?_
                replace hQ := hQ.trans hbl
                replace hN := es_store hN hF (by simp) hoth hzz
                replace hF := hNew
                clear HST hNew hbl hzz hoth
                have hH := HS.out _ hQ
                refine hK.out _ _ ?_ (fun hHeld => ?_)
                · with_reducible exact hH
                clear hK K hH
                try simp only [List.getElem_toArray, List.getElem_cons_succ, List.getElem_cons_zero]
                try simp only [Act.put]
                refine wpAnyH_take (i := 11) (v := ?_) rfl (by kernel_rfl) (by kernel_rfl) (by kernel_rfl) (fun _ _ _ h => h) (Or.inl ⟨by rfl, ?_⟩) (by assumption) ?_
                rotate_left
                · intro X hX
                  go_simp
                  try with_reducible rfl
                try simp only [List.getElem_toArray, List.getElem_cons_succ, List.getElem_cons_zero]
                try simp only [Act.put, List.setIfInBounds_toArray, List.set_cons_zero, List.set_cons_succ]
                refine wpAnyH_done (by kernel_rfl) ?_ _
                go_wp2_with fail
                go_meet
                case rel => exact ⟨gF, A', c', rfl, rfl, hgFb, Lib.hid hF, Lib.hid hN, Lib.hid hQ⟩
        case rest =>
        obtain ⟨g, A', c', rfl, rfl, hgb, hF, hN, hkp⟩ := hcut
        obtain ⟨w4, he⟩ : ∃ W, W = wc := ⟨_, rfl⟩
        subst he
        replace hkp := hkp.out
        have hbr := keepH hkp hbx
        have her4 := keepE hkp her
        have hB4 := keepB hB hkp
        have HLD4 : Hid (∀ X : World, Below w4.heap.size w4 X → (loadVar 27 ⟨b1, o1 + k * 8, none⟩).run Tryd.prog X = .ok (.agg #[.int .i64 ki, .int .i64 st, .int .i64 ep, .int .i64 vi, .int .i64 fr, .int .i64 le, .slice XA xs.length xc, .slice FA fn fc]) X) := Lib.hid fun X hX => HLD.out X (keepB hkp hX)
        have HXE4 := Lib.hid (fun X (hX : Below w4.heap.size w4 X) => HXE.out X (keepB hkp hX))
        have hA4 := HAK.out _ hB4
        have hF := hF.out
        have hN := hN.out
        clear HS HV hbx her hB HLD HXE
        cases ok with
        | false =>
          have hu := HN.out rfl
          clear HY HN HSM hAQ HXE4 HLD4 hA4 hN hkp
          go_wp2_with fail
          go_roundw
          case rel => exact ⟨k + 1, by omega, rfl, by go_num, hB4, Ar, cr, by rw [hu]; exact hbr, by rw [hu]; exact her4⟩
          case measure => simp [intOf]; omega
        | true =>
          have hu := HY.out rfl
          have hsm := HSM.out rfl
          have hmay' := (app_some hsm).2.2.2
          have hmy' := may_len hmay'
          dsimp only at hmy'
          have hgg : g3 ≠ g := by omega
          have hg4 := lt_of_block hF
          have hup := app_up hsm
          have hkp := app_keep hsm
          dsimp only at hup
          have hm0 : 0 ≤ m := hmy.2.1
          obtain ⟨mn, rfl⟩ := Int.eq_ofNat_of_zero_le hm0
          have t1 : decide (p' < p) = false := decide_eq_false (by omega)
          have t2 : decide (v' < v) = false := decide_eq_false (by omega)
          have t3 : decide (m' < (mn : Int)) = false := decide_eq_false (by omega)
          have HC := Lib.hid (regCheck_any p' v' m' w4 hN hA4)
          rw [hmay'] at HC
          have hca := (es_len hN).2
          have hcb := (es_len her4).2
          unfold maxLen at hca hcb
          obtain ⟨n0, n1, n2, n3⟩ := box4 hF
          obtain ⟨k0, k1, k2, k3⟩ := box4 hbr
          clear HY HN HSM hAQ HXE4 HLD4 hA4 hsm hmay' hmay
          go_wp2_with fail
          refine (HC.out).mono ?_
          rintro e w5 ⟨rfl, hk5⟩
          have hF5 := keepH hk5 hF
          have hbr5 := keepH hk5 hbr
          have hN5 := keepE hk5 hN
          have her5 := keepE hk5 her4
          have hB5 := keepB hB4 hk5
          clear HC n0 n1 n2 n3 k0 k1 k2 k3 hF hbr hN her4 hB4 hk5
          obtain ⟨n0, n1, n2, n3⟩ := box4 hF5
          obtain ⟨k0, k1, k2, k3⟩ := box4 hbr5
          by_cases qv : v' = v
          · have tv : (v' == v) = true := by simp [qv]
            have hKN : keepN ⟨p, v, es, mn⟩ ⟨p', v', es', m'⟩ = es.length := by simp [keepN, qv]
            rw [hKN] at hkp
            obtain ⟨hk1, hk2, hk3⟩ := hkp
            clear hKN qv
            have u1 : decide ((es'.length : Int) < (es.length : Int)) = false := decide_eq_false (by omega)
            have u1' : decide (es'.length < es.length) = false := decide_eq_false (by omega)
            have u2 : ¬ c' < es.length := by omega
            have u3 : ¬ cr < es.length := by omega
            have c0 : ∀ d os, Calls Tryd.prog 18 #[.slice A' es.length c', .slice Ar es.length cr] (grow (redrawn w5 d) os) fun e w'' => e = .returned (.bool true) ∧ ∃ p : Regrown, w'' = grow (redrawn w5 p.d) p.os := fun d os => by
              have hbq := below_regrown w5 d os
              have h := sameEn_any (EsB.take (keepE hbq hN5) hk1) (EsB.take (keepE hbq her5) hk2)
              rw [hk3, decide_eq_true rfl] at h
              exact Calls.regrown_of (h.mono fun _ _ h => h)
            have a2 : ∀ d os, (grow (redrawn w5 d) os).cell? ⟨g, 2, none⟩ = some (.slice A' es'.length c') := fun d os => cell_regrown n2 d os
            have a3 : ∀ d os, (grow (redrawn w5 d) os).cell? ⟨g3, 2, none⟩ = some (.slice Ar es.length cr) := fun d os => cell_regrown k2 d os
            clear hk1 hk2 hk3
            go_wp2_with fail
            clear n0 n1 n2 n3 k0 k1 k2 k3
            refine wp_region_quiet_below (by kernel_rfl) (by kernel_rfl) ?_
            repeat (go_big_quiet_step (with_reducible exact c0 _ _))
            refine wpQuiet_nil ?_
            intro _ hw'
            obtain ⟨⟨dq, osq⟩, hw''⟩ := hw'
            subst hw''
            have hbq := below_regrown w5 dq osq
            clear a2 a3 c0
            generalize grow (redrawn w5 dq) osq = w6 at *
            have hbr6 := keepH hbq hbr5
            have hF6 := keepH hbq hF5
            have hN6 := keepE hbq hN5
            have hB6 := keepB hB5 hbq
            clear hbr5 hF5 hN5 her5 hB5 hbq
            obtain ⟨n0, n1, n2, n3⟩ := box4 hF6
            obtain ⟨w7, HST, hbx7, hbl, hzz, hoth⟩ := rg_store w.heap.size p' v' A' es'.length c' m' hbr6 rfl hgw
            have hN7 := es_store hN6 hbr6 (by simp) hoth hzz
            have hB7 := hB6.trans hbl
            clear hN6 hbr6 hF6 hB6 hbl hoth
            go_wp2_with (with_reducible refine wpList_store_known (by rfl) 24 _ _ (by rfl) ⟨g3, 0, none⟩ _ (by with_unfolding_all rfl) (by with_unfolding_all rfl) HST.out ?_)
            go_roundw
            case rel => exact ⟨k + 1, by omega, rfl, by go_num, hB7, A', c', by rw [hu]; exact hbx7, by rw [hu]; exact hN7⟩
            case measure => simp [intOf]; omega
          have tv : (v' == v) = false := by simp [qv]
          have hKN : keepN ⟨p, v, es, mn⟩ ⟨p', v', es', m'⟩ = mn := by simp [keepN, qv]
          rw [hKN] at hkp
          obtain ⟨hk1, hk2, hk3⟩ := hkp
          clear hKN qv
          have u1 : decide ((es'.length : Int) < (mn : Int)) = false := decide_eq_false (by omega)
          have u1' : decide (es'.length < mn) = false := decide_eq_false (by omega)
          have u2 : ¬ c' < mn := by omega
          have u3 : ¬ cr < mn := by omega
          have c0 : ∀ d os, Calls Tryd.prog 18 #[.slice A' mn c', .slice Ar mn cr] (grow (redrawn w5 d) os) fun e w'' => e = .returned (.bool true) ∧ ∃ p : Regrown, w'' = grow (redrawn w5 p.d) p.os := fun d os => by
            have hbq := below_regrown w5 d os
            have h := sameEn_any (EsB.take (keepE hbq hN5) hk1) (EsB.take (keepE hbq her5) hk2)
            rw [hk3, decide_eq_true rfl] at h
            exact Calls.regrown_of (h.mono fun _ _ h => h)
          have a2 : ∀ d os, (grow (redrawn w5 d) os).cell? ⟨g, 2, none⟩ = some (.slice A' es'.length c') := fun d os => cell_regrown n2 d os
          have a3 : ∀ d os, (grow (redrawn w5 d) os).cell? ⟨g3, 2, none⟩ = some (.slice Ar es.length cr) := fun d os => cell_regrown k2 d os
          clear hk1 hk2 hk3
          go_wp2_with fail
          clear n0 n1 n2 n3 k0 k1 k2 k3
          refine wp_region_quiet_below (by kernel_rfl) (by kernel_rfl) ?_
          repeat (go_big_quiet_step (with_reducible exact c0 _ _))
          refine wpQuiet_nil ?_
          intro _ hw'
          obtain ⟨⟨dq, osq⟩, hw''⟩ := hw'
          subst hw''
          have hbq := below_regrown w5 dq osq
          clear a2 a3 c0
          generalize grow (redrawn w5 dq) osq = w6 at *
          have hbr6 := keepH hbq hbr5
          have hF6 := keepH hbq hF5
          have hN6 := keepE hbq hN5
          have hB6 := keepB hB5 hbq
          clear hbr5 hF5 hN5 her5 hB5 hbq
          obtain ⟨n0, n1, n2, n3⟩ := box4 hF6
          obtain ⟨w7, HST, hbx7, hbl, hzz, hoth⟩ := rg_store w.heap.size p' v' A' es'.length c' m' hbr6 rfl hgw
          have hN7 := es_store hN6 hbr6 (by simp) hoth hzz
          have hB7 := hB6.trans hbl
          clear hN6 hbr6 hF6 hB6 hbl hoth
          go_wp2_with (with_reducible refine wpList_store_known (by rfl) 24 _ _ (by rfl) ⟨g3, 0, none⟩ _ (by with_unfolding_all rfl) (by with_unfolding_all rfl) HST.out ?_)
          go_roundw
          case rel => exact ⟨k + 1, by omega, rfl, by go_num, hB7, A', c', by rw [hu]; exact hbx7, by rw [hu]; exact hN7⟩
          case measure => simp [intOf]; omega
      · obtain rfl : k = l.length := by omega
        have hii : ¬ (l.length : Int) < (l.length : Int) := by omega
        clear HAT HAK hl100 hR
        go_wp2_with fail
        refine (HLV.out wr hB).mono ?_
        rintro e w2 ⟨rfl, hb2⟩
        go_wp2_with fail
        go_ret
        exact ⟨rfl, keepB hB hb2⟩
end Go.Proofs.YtnbhdehpdfojlaaDoor.registerStaysW
