/-
  The contracts of there, Read, Sync, Remove and Truncate of the document's disk.
-/
import Derived.Test.YtceldekbkffhpaaQPut
import Derived.Test.YtceldekbkffhpaaDSync
namespace Go.Proofs.Ytceldekbkffhpaa
open Go.RowKit
def thereV (D : Dsk.Dk) (nm : ByteArray) : Value :=
  .tuple #[.int .i64 (if D.down then 0 else if nm ∈ Dsk.names D.fs then (Dsk.place (Dsk.names D.fs) nm : Int) else 0), .int .i64 (if D.down then 41 else if nm ∈ Dsk.names D.fs then 0 else 4)]
section
variable {w w' : World} {d : Nat} {D : Dsk.Dk} {S : Nat → Prop} {v kv : Value} {set : Bool} {left : Nat} {K : List Int}
theorem there_down {nm : ByteArray} (h : D.down = true) : thereV D nm = .tuple #[.int .i64 0, .int .i64 41] := by unfold thereV; rw [h]; rfl
theorem there_no {nm : ByteArray} (h : D.down = false) (hn : nm ∉ Dsk.names D.fs) : thereV D nm = .tuple #[.int .i64 0, .int .i64 4] := by
  unfold thereV; rw [h]; simp [hn]
theorem there_yes {nm : ByteArray} (h : D.down = false) (hn : nm ∈ Dsk.names D.fs) : thereV D nm = .tuple #[.int .i64 (Dsk.place (Dsk.names D.fs) nm : Int), .int .i64 0] := by
  unfold thereV; rw [h]; simp [hn]
set_option maxRecDepth 100000 in
theorem qthere_at (nm : ByteArray) (h : QAt w d D S v set left kv K) :
    Calls Try.prog 40 #[.pointer (some ⟨d, 0, none⟩), .string nm] w fun e w' => e = .returned (thereV D nm) ∧ Below w.heap.size w w' := by
  have k2 := h.head.cells.2.2.1
  cases hd : D.down
  · rw [hd] at k2
    have HF := Lib.hid (qfind_at nm h)
    by_cases hm : nm ∈ Dsk.names D.fs
    · have hf : findI D.fs nm = (Dsk.place (Dsk.names D.fs) nm : Int) := if_pos hm
      have HT := Lib.hid (there_yes hd hm)
      rw [hf] at HF
      generalize Dsk.place (Dsk.names D.fs) nm = p at *
      clear h hf hm
      go_enter Try.func40, Try.ntmps40
      go_wp2_with fail
      refine HF.out.mono ?_
      rintro e w1 ⟨rfl, hb⟩
      go_wp2_with fail
      go_ret2
      exact ⟨by rw [HT.out]; rfl, hb⟩
    · have hf : findI D.fs nm = -1 := if_neg hm
      have HT := Lib.hid (there_no hd hm)
      rw [hf] at HF
      clear h hf hm
      go_enter Try.func40, Try.ntmps40
      go_wp2_with fail
      refine HF.out.mono ?_
      rintro e w1 ⟨rfl, hb⟩
      go_wp2_with fail
      go_ret2
      exact ⟨by rw [HT.out]; rfl, hb⟩
  · rw [hd] at k2
    have HT := Lib.hid (there_down (nm := nm) hd)
    clear h
    go_enter Try.func40, Try.ntmps40
    go_wp2_with fail
    go_ret2
    exact ⟨by rw [HT.out]; rfl, Below.refl _ _⟩
set_option maxRecDepth 100000 in
theorem qread_at (nm : ByteArray) (h : QAt w d D S v set left kv K) :
    Calls Try.prog 12 #[.pointer (some ⟨d, 0, none⟩), .string nm] w fun e w' => e = .returned (.tuple #[.string (str (Dsk.read D nm).1), .int .i64 (Dsk.read D nm).2]) ∧ Below w.heap.size w w' := by
  have HF := Lib.hid (qthere_at nm h)
  cases hd : D.down
  · by_cases hm : nm ∈ Dsk.names D.fs
    · rw [there_yes hd hm] at HF
      obtain ⟨hi, _⟩ := Dsk.place_mem' h.good.rise hm
      have hr : Dsk.read D nm = (D.fs[Dsk.place (Dsk.names D.fs) nm].data, 0) := by
        unfold Dsk.read; rw [hd]; simp [hm, hi]
      have HR := Lib.hid hr
      obtain ⟨g, c, hv, hlc, hcm, _, hgl, _, c2, _, _⟩ := h.at_ hi
      have k3 := h.head.cells.2.2.2.1
      have hdl := lt_of_block h.head
      subst hv
      unfold maxLen at hcm
      clear h hr hm
      have hfew : Dsk.place (Dsk.names D.fs) nm < D.fs.length := hi
      generalize D.fs[Dsk.place (Dsk.names D.fs) nm].data = l at *
      generalize Dsk.place (Dsk.names D.fs) nm = p at *
      go_enter Try.func12, Try.ntmps12
      go_wp2_with fail
      refine HF.out.mono ?_
      rintro e w1 ⟨rfl, hb⟩
      have q3 := (hb.cell (p := ⟨d, 3, none⟩) hdl).trans k3
      have q1 := (hb.cell (p := ⟨g, p * 3 + 1, none⟩) hgl).trans c2
      go_wp2_with fail
      go_ret2
      exact ⟨by rw [HR.out]; rfl, hb⟩
    · rw [there_no hd hm] at HF
      have hr : Dsk.read D nm = ([], 4) := by unfold Dsk.read; rw [hd]; simp [hm]
      have HR := Lib.hid hr
      clear h hr hm
      go_enter Try.func12, Try.ntmps12
      go_wp2_with fail
      refine HF.out.mono ?_
      rintro e w1 ⟨rfl, hb⟩
      go_wp2_with fail
      go_ret2
      exact ⟨by rw [HR.out]; rfl, hb⟩
  · rw [there_down hd] at HF
    have hr : Dsk.read D nm = ([], 41) := by unfold Dsk.read; rw [hd]; rfl
    have HR := Lib.hid hr
    clear h hr
    go_enter Try.func12, Try.ntmps12
    go_wp2_with fail
    refine HF.out.mono ?_
    rintro e w1 ⟨rfl, hb⟩
    go_wp2_with fail
    go_ret2
    exact ⟨by rw [HR.out]; rfl, hb⟩
/-- The files' row is another one, in the same block. -/
theorem QAt.row_to {g c : Nat} {fs' : List Dsk.Fl} (h : QAt w d D S (.slice (some ⟨g, 0, none⟩) D.fs.length c) set left kv K) (hf : Foot (fun x => x = g) w w') (hl : fs'.length = D.fs.length) (hr : w'.ownsRow 0 67 3 (.slice (some ⟨g, 0, none⟩) D.fs.length c) D.fs.length (qRow fs')) (hg : Dsk.Good { D with fs := fs' }) :
    QAt w' d { D with fs := fs' } S (.slice (some ⟨g, 0, none⟩) D.fs.length c) set left kv K := by
  have hgd : ¬ d = g := fun e => h.offd (by rw [e]; rfl)
  refine ⟨h.head.foot hf hgd, by rw [hl]; exact hr, h.keep.foot hf fun k hk e => (h.koff k hk).2 (by rw [e]; rfl), h.klen, h.lmax, h.fail, h.offd, h.koff, fun k hk => ⟨Nat.lt_of_lt_of_le (h.kin k hk).1 hf.size, (h.kin k hk).2⟩, h.vin, h.din, fun k hk => Nat.lt_of_lt_of_le (h.lt k hk) hf.size, hg⟩
theorem DidQ.trans_ {w1 : World} {S1 : Nat → Prop} {R : Dsk.Dk × Int} {r : Int} (hf : Foot S w w1) (hS : ∀ k, S1 k → S k ∨ w.heap.size ≤ k) (h : DidQ w1 d S1 R r w') : DidQ w d S R r w' := by
  obtain ⟨h1, S', h2, h3, h4⟩ := h
  refine ⟨h1, S', h2, ?_, fun k hk => ?_⟩
  · refine hf.trans h3 fun k hk e => ?_
    rcases hS k e with e | e
    · exact e
    · omega
  · rcases h4 k hk with e | e
    · exact hS k e
    · exact .inr (Nat.le_trans hf.size e)
theorem DidQ.from_ {R : Dsk.Dk × Int} {r : Int} {w1 : World} (hb : Below w.heap.size w w1) (h : DidQ w1 d S R r w') : DidQ w d S R r w' := h.trans_ (below_foot hb) fun _ h => .inl h
theorem DidQ.end_ {S1 : Nat → Prop} (h : IsQ w' d D S1) (hf : Foot S w w') (hS : ∀ k, S1 k → S k ∨ w.heap.size ≤ k) (r : Int) : DidQ w d S (D, r) r w' := ⟨rfl, S1, h, hf, hS⟩
theorem qask_is {nm : ByteArray} (hd : D.down = false) (hm : nm ∈ Dsk.names D.fs) (what : Nat → Dsk.Dk × Int) : Dsk.ask D nm what = what (Dsk.place (Dsk.names D.fs) nm) := by unfold Dsk.ask; rw [hd]; simp [hm]
theorem qask_no {nm : ByteArray} (hd : D.down = false) (hm : nm ∉ Dsk.names D.fs) (what : Nat → Dsk.Dk × Int) : Dsk.ask D nm what = (D, 4) := by unfold Dsk.ask; rw [hd]; simp [hm]
theorem qask_dn {nm : ByteArray} (hd : D.down = true) (what : Nat → Dsk.Dk × Int) : Dsk.ask D nm what = (D, 41) := by unfold Dsk.ask; rw [hd]; rfl
set_option maxRecDepth 100000 in
set_option maxHeartbeats 1000000 in
theorem qsync_any (nm : ByteArray) (h : IsQ w d D S) : Calls Try.prog 30 #[.pointer (some ⟨d, 0, none⟩), .string nm] w (AnyRet (DidQ w d S (Dsk.sync D nm))) := by
  obtain ⟨v, set, left, kv, K, h⟩ := h
  have HQ := Lib.hid h
  have HF := Lib.hid (qthere_at nm h)
  cases hd : D.down
  · by_cases hm : nm ∈ Dsk.names D.fs
    · rw [there_yes hd hm] at HF
      obtain ⟨hi, _⟩ := Dsk.place_mem' h.good.rise hm
      have HR := Lib.hid (show Dsk.sync D nm = Dsk.change D fun fs => fs.modify (Dsk.place (Dsk.names D.fs) nm) Dsk.syncF from qask_is hd hm _)
      generalize Dsk.place (Dsk.names D.fs) nm = p at *
      clear h hm
      go_enter Try.func30, Try.ntmps30
      go_wp2_with fail
      refine HF.out.mono ?_
      rintro e w1 ⟨rfl, hb⟩
      have h1 := HQ.out.below hb
      have HC := Lib.hid (qchange_at h1 hd)
      have HB := Lib.hid hb
      go_wp2_with fail
      refine HC.out.mono ?_
      rintro e w2 (⟨hp, rfl, left', h2, hf2⟩ | ⟨hp, rfl, h2, hf2⟩)
      · have hfs := (pass_has D).2 hp
        have hcap := (pass_has D).1
        obtain ⟨hfs1, _, _⟩ := hfs
        have hi2 : p < (Dsk.pass D).1.fs.length := by rw [hfs1]; exact hi
        obtain ⟨g, c, hv, hlc, hcm, hgd, hgl, c1, c2, c3, cz⟩ := h2.at_ hi2
        subst hv
        have k3 := h2.head.cells.2.2.2.1
        have z3 := cz (p * 3 + 2)
        have hsz := str_size (Dsk.pass D).1.fs[p].data
        have hst := World.ownsRow.stored h2.row (p * 3 + 2) (.int .i64 ((Dsk.pass D).1.fs[p].data.length : Int))
        have hq : QAt (w2.setCell ⟨g, p * 3 + 2, none⟩ (.int .i64 ((Dsk.pass D).1.fs[p].data.length : Int))) d { (Dsk.pass D).1 with fs := (Dsk.pass D).1.fs.modify p Dsk.syncF } S (.slice (some ⟨g, 0, none⟩) (Dsk.pass D).1.fs.length c) set left' kv K := by
          refine h2.row_to (Foot.set (fun x => x = g) w2 _ _ rfl) (by simp) ?_ (h2.good.modify p Dsk.syncF (fun _ => rfl) (fun _ => Nat.le_refl _) (fun _ _ => Nat.le_refl _) _ _ _)
          rw [qRow_set _ hi2 Dsk.syncF rfl, show (Dsk.syncF (Dsk.pass D).1.fs[p]).data = (Dsk.pass D).1.fs[p].data from rfl, show (Dsk.syncF (Dsk.pass D).1.fs[p]).sure = (Dsk.pass D).1.fs[p].data.length from rfl, set_same (qRow (Dsk.pass D).1.fs) (p * 3 + 1) _ (qRow_at _ hi2).2.1]
          exact hst.1
        have HQ2 := Lib.hid hq
        have hvin : S g := h2.vin g rfl
        have hdin : S d := h2.din
        have HF2 := Lib.hid hf2
        have HP := Lib.hid hp
        have HFS := Lib.hid hfs1
        have hln : (Dsk.pass D).1.fs.length ≤ 16 := h2.few
        unfold maxLen at hcm
        clear h2 hst hq hf2 hp hfs1
        generalize (Dsk.pass D).1.fs[p].data.length = L at *
        generalize str (Dsk.pass D).1.fs[p].data = t at *
        go_wp2_with fail
        refine wp_region_tail_drawn 16 (by kernel_rfl) (by kernel_rfl) ?_
        simp only [List.take_succ_cons, List.take_zero, List.drop_succ_cons, List.drop_zero]
        repeat (go_big_quiet_step (fail))
        refine wpQuiet_nil ?_
        intro _ hw'
        obtain ⟨mq, hw''⟩ := hw'
        subst hw''
        go_wp2
        go_ret
        have hf3 : Foot (fun _ => False) (w2.setCell ⟨g, p * 3 + 2, none⟩ (.int .i64 (L : Int))) ((w2.drewN mq).setCell ⟨g, p * 3 + 2, none⟩ (.int .i64 (L : Int))) := eqv_foot rfl rfl rfl rfl
        have hq3 := HQ2.out.foot hf3 fun _ _ e => e
        have hfa : Foot S w2 ((w2.drewN mq).setCell ⟨g, p * 3 + 2, none⟩ (.int .i64 (L : Int))) := (Foot.set S w2 ⟨g, p * 3 + 2, none⟩ (.int .i64 (L : Int)) hvin).trans hf3 fun _ _ e => e.elim
        refine ⟨0, rfl, ?_⟩
        rw [HR.out, change_ok HP.out, ← HFS.out]
        exact DidQ.from_ HB.out (DidQ.end_ ⟨_, _, _, _, _, hq3⟩ ((HF2.out.mono fun k _ e => by rw [e]; exact hdin).trans hfa fun _ _ h => h) (fun k hk => .inl hk) 0)
      · go_wp2_with fail
        go_ret
        refine ⟨41, rfl, ?_⟩
        rw [HR.out, change_no hp]
        have h1 := HQ.out.below HB.out
        refine DidQ.from_ HB.out ⟨hp.symm, S, h2, hf2.mono fun k _ e => ?_, fun k hk => .inl hk⟩
        rcases e with e | e
        · rw [e]; exact h1.din
        · exact h1.vin k e
    · rw [there_no hd hm] at HF
      have HR := Lib.hid (show Dsk.sync D nm = (D, 4) from qask_no hd hm _)
      clear h hm
      go_enter Try.func30, Try.ntmps30
      go_wp2_with fail
      refine HF.out.mono ?_
      rintro e w1 ⟨rfl, hb⟩
      go_wp2_with fail
      go_ret
      exact ⟨4, rfl, by rw [HR.out]; exact DidQ.same ⟨v, set, left, kv, K, HQ.out⟩ 4 hb⟩
  · rw [there_down hd] at HF
    have HR := Lib.hid (show Dsk.sync D nm = (D, 41) from qask_dn hd _)
    clear h
    go_enter Try.func30, Try.ntmps30
    go_wp2_with fail
    refine HF.out.mono ?_
    rintro e w1 ⟨rfl, hb⟩
    go_wp2_with fail
    go_ret
    exact ⟨41, rfl, by rw [HR.out]; exact DidQ.same ⟨v, set, left, kv, K, HQ.out⟩ 41 hb⟩
end
end Go.Proofs.Ytceldekbkffhpaa
