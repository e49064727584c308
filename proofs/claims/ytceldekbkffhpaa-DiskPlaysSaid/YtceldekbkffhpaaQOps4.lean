/-
  The contracts of Truncate and Append of the document's disk.
-/
import Derived.Test.YtceldekbkffhpaaQOps2
import Derived.Test.YtceldekbkffhpaaDApp
namespace Go.Proofs.Ytceldekbkffhpaa
open Go.RowKit
section
variable {w w' : World} {d : Nat} {D : Dsk.Dk} {S : Nat → Prop} {v kv : Value} {set : Bool} {left : Nat} {K : List Int}
theorem lenAt_is {fs : List Dsk.Fl} {p : Nat} (hp : p < fs.length) : Dsk.lenAt fs p = fs[p].data.length := by unfold Dsk.lenAt; simp [hp]
theorem qRow_two (fs : List Dsk.Fl) {i : Nat} (hi : i < fs.length) (g : Dsk.Fl → Dsk.Fl) (hn : (g fs[i]).name = fs[i].name) {m : Nat} (hm : (g fs[i]).sure = m) {t : ByteArray} (ht : str (g fs[i]).data = t) :
    qRow (fs.modify i g) = ((qRow fs).set (i * 3 + 1) (.string t)).set (i * 3 + 2) (.int .i64 (m : Int)) := by rw [qRow_set fs hi g hn, hm, ht]
set_option maxRecDepth 100000 in
set_option maxHeartbeats 1000000 in
theorem qtrunc_any (nm : ByteArray) (n : Int) (h : IsQ w d D S) : Calls Try.prog 31 #[.pointer (some ⟨d, 0, none⟩), .string nm, .int .i64 n] w (AnyRet (DidQ w d S (Dsk.truncate D nm n))) := by
  obtain ⟨v, set, left, kv, K, h⟩ := h
  have HQ := Lib.hid h
  have HF := Lib.hid (qthere_at nm h)
  cases hd : D.down
  · by_cases hm : nm ∈ Dsk.names D.fs
    · rw [there_yes hd hm] at HF
      obtain ⟨hi, _⟩ := Dsk.place_mem' h.good.rise hm
      have hR : Dsk.truncate D nm n = if n < 0 ∨ (Dsk.lenAt D.fs (Dsk.place (Dsk.names D.fs) nm) : Int) < n then (D, 2) else Dsk.change D fun fs => fs.modify (Dsk.place (Dsk.names D.fs) nm) (Dsk.truncF n.toNat) := qask_is hd hm _
      rw [lenAt_is hi] at hR
      obtain ⟨g, c, hv, hlc, hcm, hgd, hgl, c1, c2, c3, cz⟩ := h.at_ hi
      have k3 := h.head.cells.2.2.2.1
      have hdl := lt_of_block h.head
      have hsz := str_size D.fs[Dsk.place (Dsk.names D.fs) nm].data
      have hL : D.fs[Dsk.place (Dsk.names D.fs) nm].data.length ≤ 1048576 := by
        have h1 := qtotal_take D.fs hi
        have h2 : Dsk.total (D.fs.take (Dsk.place (Dsk.names D.fs) nm + 1)) ≤ Dsk.total D.fs := Dsk.total_sublist (List.take_sublist _ _)
        have := h.good.room
        have := h.good.cap1
        omega
      have hfew := h.few
      generalize Dsk.place (Dsk.names D.fs) nm = p at *
      subst hv
      unfold maxLen at hcm
      clear hm
      by_cases hn : n < 0 ∨ (D.fs[p].data.length : Int) < n
      · rw [if_pos hn] at hR
        have HR := Lib.hid hR
        clear h c1 c3 cz hgd hR
        generalize D.fs[p].data.length = L at *
        generalize str D.fs[p].data = t at *
        rcases hn with hn | hn
        · go_enter Try.func31, Try.ntmps31
          go_wp2_with fail
          refine HF.out.mono ?_
          rintro e w1 ⟨rfl, hb⟩
          have q3 := (hb.cell (p := ⟨d, 3, none⟩) hdl).trans k3
          have q2 := (hb.cell (p := ⟨g, p * 3 + 1, none⟩) hgl).trans c2
          go_wp2_with fail
          go_ret
          exact ⟨2, rfl, by rw [HR.out]; exact DidQ.same ⟨_, set, left, kv, K, HQ.out⟩ 2 hb⟩
        · have hn0 : 0 ≤ n := by omega
          go_enter Try.func31, Try.ntmps31
          go_wp2_with fail
          refine HF.out.mono ?_
          rintro e w1 ⟨rfl, hb⟩
          have q3 := (hb.cell (p := ⟨d, 3, none⟩) hdl).trans k3
          have q2 := (hb.cell (p := ⟨g, p * 3 + 1, none⟩) hgl).trans c2
          go_wp2_with fail
          go_ret
          exact ⟨2, rfl, by rw [HR.out]; exact DidQ.same ⟨_, set, left, kv, K, HQ.out⟩ 2 hb⟩
      · rw [if_neg hn] at hR
        obtain ⟨N, rfl⟩ : ∃ N : Nat, n = (N : Int) := ⟨n.toNat, by omega⟩
        rw [show ((N : Int)).toNat = N by omega] at hR
        have HR := Lib.hid hR
        have hNL : N ≤ D.fs[p].data.length := by omega
        clear h hgd hR hn c1 c3 cz
        go_enter Try.func31, Try.ntmps31
        go_wp2_with fail
        refine HF.out.mono ?_
        rintro e w1 ⟨rfl, hb⟩
        have q3 := (hb.cell (p := ⟨d, 3, none⟩) hdl).trans k3
        have q2 := (hb.cell (p := ⟨g, p * 3 + 1, none⟩) hgl).trans c2
        have h1 := HQ.out.below hb
        have HC := Lib.hid (qchange_at h1 hd)
        have HB := Lib.hid hb
        have hsz1 : (str D.fs[p].data).size = D.fs[p].data.length := hsz
        clear h1
        go_wp2_with fail
        refine HC.out.mono ?_
        rintro e w2 (⟨hp, rfl, left', h2, hf2⟩ | ⟨hp, rfl, h2, hf2⟩)
        · obtain ⟨hfs1, _, _⟩ := (pass_has D).2 hp
          obtain ⟨cap1, fs1, dn1, st1, fl1, hD1⟩ : ∃ a b c e f, (Dsk.pass D).1 = ⟨a, b, c, e, f⟩ := ⟨_, _, _, _, _, rfl⟩
          rw [hD1] at h2 hfs1
          obtain rfl : fs1 = D.fs := hfs1
          obtain ⟨g2, c', hv2, _, _, hgd2, hgl2, b1, b2, b3, bz⟩ := h2.at_ (i := p) hi
          injection hv2 with hv2 _ _
          injection hv2 with hv2
          injection hv2 with hv2
          subst hv2
          have k3 := h2.head.cells.2.2.2.1
          have z1 := bz (p * 3 + 1)
          have z2 := bz (p * 3 + 2)
          obtain ⟨u, hu⟩ : ∃ u : Nat, min D.fs[p].sure N = u := ⟨_, rfl⟩
          have hmin : min (D.fs[p].sure : Int) (N : Int) = (u : Int) := by omega
          have hst := World.ownsRow.stored (World.ownsRow.stored h2.row (p * 3 + 1) (.string ((str D.fs[p].data).extract 0 N))).1 (p * 3 + 2) (.int .i64 (u : Int))
          have hff : Foot (fun x => x = g) w2 ((w2.setCell ⟨g, p * 3 + 1, none⟩ (.string ((str D.fs[p].data).extract 0 N))).setCell ⟨g, p * 3 + 2, none⟩ (.int .i64 (u : Int))) := (Foot.set (fun x => x = g) w2 _ _ rfl).trans (Foot.set (fun x => x = g) _ _ _ rfl) fun _ _ h => h
          have hq : QAt ((w2.setCell ⟨g, p * 3 + 1, none⟩ (.string ((str D.fs[p].data).extract 0 N))).setCell ⟨g, p * 3 + 2, none⟩ (.int .i64 (u : Int))) d ⟨cap1, D.fs.modify p (Dsk.truncF N), dn1, st1, fl1⟩ S (.slice (some ⟨g, 0, none⟩) D.fs.length c) set left' kv K := by
            refine h2.row_to hff (by simp) ?_ (h2.good.modify p (Dsk.truncF N) (fun _ => rfl) (fun f => by show (f.data.take N).length ≤ _; rw [List.length_take]; omega) (fun f hf => by
              show min f.sure N ≤ (f.data.take N).length
              have := h2.good.sure f hf
              rw [List.length_take]; omega) _ _ _)
            rw [qRow_two _ hi (Dsk.truncF N) rfl (m := u) hu (t := (str D.fs[p].data).extract 0 N) (by rw [← str_take]; rfl)]
            exact hst.1
          have HQ2 := Lib.hid hq
          have HFF := Lib.hid hff
          have hvin : S g := h2.vin g rfl
          have hdin : S d := h2.din
          have HF2 := Lib.hid hf2
          have HP := Lib.hid hp
          have HD1 := Lib.hid hD1
          have b3' : ∀ t, (w2.setCell ⟨g, p * 3 + 1, none⟩ t).cell? ⟨g, p * 3 + 2, none⟩ = some (.int .i64 (D.fs[p].sure : Int)) := fun t => (World.cell?_setCell_other _ _ _ _ (fun e => by injection e with _ e; omega)).trans b3
          clear h2 hst hff hq hf2 hp hD1 hu bz b1 q2 c2 hsz1
          generalize D.fs[p].data.length = L at *
          generalize str D.fs[p].data = t at *
          generalize D.fs[p].sure = sr at *
          go_wp2_with fail
          refine wp_region_tail_drawn 17 (by kernel_rfl) (by kernel_rfl) ?_
          simp only [List.take_succ_cons, List.take_zero, List.drop_succ_cons, List.drop_zero]
          repeat (go_big_quiet_step (fail))
          refine wpQuiet_nil ?_
          intro _ hw'
          obtain ⟨mq, hw''⟩ := hw'
          subst hw''
          go_wp2
          refine wp_region_tail_drawn 17 (by kernel_rfl) (by kernel_rfl) ?_
          simp only [List.take_succ_cons, List.take_zero, List.drop_succ_cons, List.drop_zero]
          repeat (go_big_quiet_step (fail))
          refine wpQuiet_nil ?_
          intro _ hw'
          obtain ⟨mr, hw''⟩ := hw'
          subst hw''
          go_wp2
          go_ret
          have hf3 : Foot (fun _ => False) ((w2.setCell ⟨g, p * 3 + 1, none⟩ (.string (t.extract 0 N))).setCell ⟨g, p * 3 + 2, none⟩ (.int .i64 (u : Int))) ((((w2.drewN mq).setCell ⟨g, p * 3 + 1, none⟩ (.string (t.extract 0 N))).drewN mr).setCell ⟨g, p * 3 + 2, none⟩ (.int .i64 (u : Int))) := eqv_foot rfl rfl rfl rfl
          have hq3 := HQ2.out.foot hf3 fun _ _ e => e
          have hfa := (HFF.out.mono (S' := S) fun k _ e => by rw [e]; exact hvin).trans hf3 fun _ _ e => e.elim
          refine ⟨0, rfl, ?_⟩
          rw [HR.out, change_ok HP.out, HD1.out]
          exact DidQ.from_ HB.out (DidQ.end_ ⟨_, _, _, _, _, hq3⟩ ((HF2.out.mono fun k _ e => by rw [e]; exact hdin).trans hfa fun _ _ h => h) (fun k hk => .inl hk) 0)
        · go_wp2_with fail
          go_ret
          refine ⟨41, rfl, ?_⟩
          rw [HR.out, change_no hp]
          have h1 := HQ.out.below HB.out
          refine DidQ.from_ HB.out ⟨hp.symm, S, h2, hf2.mono fun k _ e => ?_, fun k hk => .inl hk⟩
          rcases e with e | e
          · rw [e]; exact h1.din
          · exact h1.vin k e
    · rw [there_no hd hm] at HF
      have HR := Lib.hid (show Dsk.truncate D nm n = (D, 4) from qask_no hd hm _)
      clear h hm
      go_enter Try.func31, Try.ntmps31
      go_wp2_with fail
      refine HF.out.mono ?_
      rintro e w1 ⟨rfl, hb⟩
      go_wp2_with fail
      go_ret
      exact ⟨4, rfl, by rw [HR.out]; exact DidQ.same ⟨v, set, left, kv, K, HQ.out⟩ 4 hb⟩
  · rw [there_down hd] at HF
    have HR := Lib.hid (show Dsk.truncate D nm n = (D, 41) from qask_dn hd _)
    clear h
    go_enter Try.func31, Try.ntmps31
    go_wp2_with fail
    refine HF.out.mono ?_
    rintro e w1 ⟨rfl, hb⟩
    go_wp2_with fail
    go_ret
    exact ⟨41, rfl, by rw [HR.out]; exact DidQ.same ⟨v, set, left, kv, K, HQ.out⟩ 41 hb⟩
/-- Does the failure come now? -/
def FailsQ (w : World) (d : Nat) (D : Dsk.Dk) (S : Nat → Prop) (v : Value) (set : Bool) (kv : Value) (K : List Int) (e : Ending) (w' : World) : Prop :=
  ((Dsk.pass D).2 = 0 ∧ e = .returned (.bool false) ∧ ∃ left', QAt w' d (Dsk.pass D).1 S v set left' kv K ∧ Foot (fun k => k = d) w w') ∨
  (Dsk.pass D = (Dsk.goDown D K, 41) ∧ e = .returned (.bool true) ∧ w = w')
theorem qfails_at (h : QAt w d D S v set left kv K) : Calls Try.prog 66 #[.pointer (some ⟨d, 0, none⟩)] w (FailsQ w d D S v set kv K) := by
  cases set with
  | false =>
    refine (qfails_same h (.inl rfl)).mono ?_
    rintro e w' ⟨rfl, rfl⟩
    have hp : Dsk.pass D = (D, 0) := by unfold Dsk.pass; rw [h.setOff]
    exact .inl ⟨by rw [hp], rfl, left, by rw [hp]; exact h, Foot.refl _ _⟩
  | true =>
    cases left with
    | zero =>
      refine (qfails_same h (.inr rfl)).mono ?_
      rintro e w' ⟨rfl, rfl⟩
      have hp : Dsk.pass D = (Dsk.goDown D K, 41) := by unfold Dsk.pass; rw [h.setOn, ← down_take K D h.few]
      exact .inr ⟨hp, rfl, rfl⟩
    | succ n =>
      refine (qfails_more h).mono ?_
      rintro e w' ⟨rfl, rfl⟩
      have hp : Dsk.pass D = ({ D with fail := some (n, K.take 16) }, 0) := by unfold Dsk.pass; rw [h.setOn]
      exact .inl ⟨by rw [hp], rfl, n, by rw [hp]; exact h.less.1, h.less.2⟩
end
end Go.Proofs.Ytceldekbkffhpaa
