/-
  The contract of Append of the document's disk.
-/
import Derived.Test.YtceldekbkffhpaaQOps4
import Derived.Test.YtceldekbkffhpaaDApp
namespace Go.Proofs.Ytceldekbkffhpaa
open Go.RowKit
section
variable {w w' : World} {d : Nat} {D : Dsk.Dk} {S : Nat → Prop} {v kv : Value} {set : Bool} {left : Nat} {K : List Int}
theorem qsize_drew (h : QAt w d D S v set left kv K) (m : Nat) :
    Calls Try.prog 19 #[.pointer (some ⟨d, 0, none⟩)] (w.drewN m) fun e w'' => e = .returned (.int .i64 (Dsk.total D.fs : Int)) ∧ ∃ n, w'' = w.drewN n :=
  (qsize_at (h.foot (Foot.drewN (fun _ => False) w m) fun _ _ e => e)).mono fun _ _ ⟨h1, h2⟩ => ⟨h1, m, h2.symm⟩
theorem QAt.drewN (h : QAt w d D S v set left kv K) (m : Nat) : QAt (w.drewN m) d D S v set left kv K := h.foot (Foot.drewN (fun _ => False) w m) fun _ _ e => e
/-- A file with more bytes. -/
theorem QAt.more {p g c : Nat} (s : ByteArray) (h : QAt w d D S (.slice (some ⟨g, 0, none⟩) D.fs.length c) set left kv K) (hp : p < D.fs.length) (hg : Dsk.Good { D with fs := D.fs.modify p (moreF s) })
    (hW : Foot (fun _ => False) (w.setCell ⟨g, p * 3 + 1, none⟩ (.string (str D.fs[p].data ++ s))) w') :
    QAt w' d { D with fs := D.fs.modify p (moreF s) } S (.slice (some ⟨g, 0, none⟩) D.fs.length c) set left kv K ∧ Foot (fun x => x = g) w w' := by
  have hf : Foot (fun x => x = g) w w' := (Foot.set (fun x => x = g) w ⟨g, p * 3 + 1, none⟩ _ rfl).trans hW fun _ _ e => e.elim
  have hst := (World.ownsRow.stored h.row (p * 3 + 1) (.string (str D.fs[p].data ++ s))).1
  refine ⟨h.row_to hf (by simp) ?_ hg, hf⟩
  rw [qRow_two _ hp (moreF s) rfl (m := D.fs[p].sure) rfl (t := str D.fs[p].data ++ s) (by rw [str_append]; rfl), set_same]
  · exact owns_foot hst hW fun _ _ e => e
  · rw [List.getElem?_set_ne (by omega)]; exact (qRow_at _ hp).2.2
set_option maxRecDepth 100000 in
set_option maxHeartbeats 2000000 in
theorem qapp_there (nm s : ByteArray) (h : QAt w d D S v set left kv K) (hd : D.down = false) (hn : Dsk.isNm nm = true) (hm : nm ∈ Dsk.names D.fs) (hf : ¬ D.cap < Dsk.total D.fs + s.size) :
    Calls Try.prog 37 #[.pointer (some ⟨d, 0, none⟩), .string nm, .string s] w (AnyRet (DidQ w d S (Dsk.append D nm s))) := by
  have HQ := Lib.hid h
  have HN := Lib.hid (qname_any nm)
  rw [hn] at HN
  have HF := Lib.hid (qfind_at nm h)
  rw [show findI D.fs nm = (Dsk.place (Dsk.names D.fs) nm : Int) from if_pos hm] at HF
  have k0 := h.head.cells.1
  have k2 := h.head.cells.2.2.1
  have k3 := h.head.cells.2.2.2.1
  rw [hd] at k2
  have hdl := lt_of_block h.head
  have hcap := h.good.cap1
  go_enter Try.func37, Try.ntmps37
  go_wp2_with fail
  refine (HN.out _).mono ?_
  rintro e w1 ⟨rfl, rfl⟩
  go_wp2_with fail
  refine HF.out.mono ?_
  rintro e w1 ⟨rfl, hb⟩
  have q0 := (hb.cell (p := ⟨d, 0, none⟩) hdl).trans k0
  have q3 := (hb.cell (p := ⟨d, 3, none⟩) hdl).trans k3
  have h1 := HQ.out.below hb
  have HS := Lib.hid (qsize_drew h1)
  obtain ⟨hp, _⟩ := Dsk.place_mem' h1.good.rise hm
  have hroom := h1.good.room
  have hadd : Dsk.addTo D.fs nm s = D.fs.modify (Dsk.place (Dsk.names D.fs) nm) (moreF s) := by unfold Dsk.addTo; rw [if_pos hm]; rfl
  have HW : Hid (Dsk.append D nm s = Dsk.pass { D with fs := D.fs.modify (Dsk.place (Dsk.names D.fs) nm) (moreF s) }) := by unfold Hid Dsk.append; rw [hd, if_neg (by simp), if_neg (by rw [hn]; simp), if_neg (by simp [hm]; omega), hadd]
  have hg : Dsk.Good { D with fs := D.fs.modify (Dsk.place (Dsk.names D.fs) nm) (moreF s) } := by rw [← hadd]; exact h1.good.append nm s hn (by simp [hm]; omega) _ _ _
  have HG := Lib.hid hg
  have HQ1 := Lib.hid h1
  have HB := Lib.hid hb
  have hfew := h1.few
  have hL : D.fs[Dsk.place (Dsk.names D.fs) nm].data.length ≤ Dsk.total D.fs := by
    have h1 := qtotal_take D.fs hp
    have h2 : Dsk.total (D.fs.take (Dsk.place (Dsk.names D.fs) nm + 1)) ≤ Dsk.total D.fs := Dsk.total_sublist (List.take_sublist _ _)
    omega
  clear h hadd hg hm h1 HF HN hn
  generalize Dsk.place (Dsk.names D.fs) nm = p at *
  generalize Dsk.total D.fs = T at *
  have hsz := str_size D.fs[p].data
  have hsum : D.fs[p].data.length + s.size ≤ 1048576 := by omega
  have t1 : decide ((p : Int) < 0) = false := decide_eq_false (by omega)
  have hcs : IntKind.i64.wrap ((D.cap : Int) - (T : Int)) = (D.cap : Int) - (T : Int) := IntWalk.i64_in _ (by omega)
  have t2 : decide ((D.cap : Int) - (T : Int) < (s.size : Int)) = false := decide_eq_false (by omega)
  go_wp2_with fail
  go_quiet ((go_at_call 19; exact HS.out _))
  have hu := HQ1.out.drewN nq
  have FU : Hid (Foot S w (w1.drewN nq)) := (below_foot HB.out : Foot S w w1).trans (Foot.drewN S w1 nq) fun _ _ h => h
  clear HQ1 HQ q0 q3 k0 k2 k3 HS
  generalize w1.drewN nq = u at *
  -- the tail: at world u, disk D (files D.fs), file p
  obtain ⟨g, c, hv, hlc, hcm, hgd, hgl, b1, b2, b3, bz⟩ := hu.at_ hp
  subst hv
  unfold maxLen at hcm
  have j3 := hu.head.cells.2.2.2.1
  have z1 := bz (p * 3 + 1)
  have HM := Lib.hid (fun W (hW : Foot (fun _ => False) (u.setCell ⟨g, p * 3 + 1, none⟩ (.string (str D.fs[p].data ++ s))) W) => hu.more (w' := W) s hp HG.out hW)
  have hsin : S g ∧ S d := ⟨hu.vin g rfl, hu.din⟩
  clear hu b1 b3 bz
  generalize str D.fs[p].data = t at *
  go_wp2_with fail
  refine wp_region_tail_drawn 17 (by kernel_rfl) (by kernel_rfl) ?_
  simp only [List.take_succ_cons, List.take_zero, List.drop_succ_cons, List.drop_zero]
  repeat (go_big_quiet_step (fail))
  refine wpQuiet_nil ?_
  intro _ hw'
  obtain ⟨mq, hw''⟩ := hw'
  subst hw''
  go_wp2_with fail
  obtain ⟨q, hf3⟩ := HM.out ((u.drewN mq).setCell ⟨g, p * 3 + 1, none⟩ (.string (t ++ s))) (eqv_foot rfl rfl rfl rfl)
  generalize (u.drewN mq).setCell ⟨g, p * 3 + 1, none⟩ (.string (t ++ s)) = w3 at *
  have HFL := Lib.hid (qfails_at q)
  have HC := Lib.hid (qcrash_at q hd q.keep fun k _ hk => q.koff k hk)
  have k6 := q.head.cells.2.2.2.2.2.2.1
  have HF3 := Lib.hid (FU.out.trans (hf3.mono (S' := S) fun k _ e => by rw [e]; exact hsin.1) fun _ _ h => h)
  clear q hf3 HM j3 b2 z1
  go_wp2_with fail
  refine HFL.out.mono ?_
  rintro e w4 (⟨hp0, rfl, left', h4, hf4⟩ | ⟨hp1, rfl, rfl⟩)
  · have H4 := Lib.hid h4
    have HF4 := Lib.hid hf4
    clear h4 hf4
    go_wp2_with fail
    go_ret
    refine ⟨0, rfl, ?_⟩
    rw [HW.out]
    exact ⟨hp0.symm, S, ⟨_, _, _, _, _, H4.out⟩, HF3.out.trans (HF4.out.mono fun k _ e => by rw [e]; exact hsin.2) fun _ _ h => h, fun k hk => .inl hk⟩
  · have HP1 := Lib.hid hp1
    clear hp1
    go_wp2_with fail
    refine HC.out.mono ?_
    rintro e w5 ⟨rfl, h5, hf5⟩
    have H5 := Lib.hid h5
    have HF5 := Lib.hid hf5
    clear h5 hf5
    go_wp2_with fail
    go_ret
    refine ⟨41, rfl, ?_⟩
    rw [HW.out, HP1.out]
    exact ⟨rfl, S, ⟨_, _, _, _, _, H5.out⟩, HF3.out.trans (HF5.out.mono fun k _ e => by
      rcases e with e | e
      · rw [e]; exact hsin.2
      · injection e with e; rw [← e]; exact hsin.1) fun _ _ h => h, fun k hk => .inl hk⟩
end
end Go.Proofs.Ytceldekbkffhpaa
