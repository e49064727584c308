/-
  Contracts of Sync and Truncate: the closure, and the call.
-/
import Derived.Test.YtceldekbkffhpaaDDisk
namespace Go.Proofs.Ytceldekbkffhpaa
open Go.RowKit
section
variable {w w' : World} {d : Nat} {D : Dsk.Dk} {S T : Nat → Prop} {v : Value} {fs : List MF} {left : Int} {fv : Value}
theorem change_ok (h : (Dsk.pass D).2 = 0) (g : List Dsk.Fl → List Dsk.Fl) : Dsk.change D g = ({ (Dsk.pass D).1 with fs := g D.fs }, 0) := by unfold Dsk.change; rw [if_pos h]
theorem change_no (h : (Dsk.pass D).2 = 41) (g : List Dsk.Fl → List Dsk.Fl) : Dsk.change D g = Dsk.pass D := by unfold Dsk.change; rw [if_neg (by omega)]
/-- The two cells of a file are written, behind something that was done to its own bytes at most. -/
theorem DiskAt.cells {D' : Dsk.Dk} {i g c : Nat} {w1 W : World} (h : DiskAt w d D S T (.slice (some ⟨g, 0, none⟩) fs.length c) fs left fv) (hi : i < fs.length) (f : MF) (hn : f.fl.name = fs[i].fl.name)
    (h1 : Foot (fun k => fs[i].bv.ownBlock = some k) w w1) (hb : Bytes w1 f.bv f.fl.data) (hk : ∀ k, f.bv.ownBlock = some k → fs[i].bv.ownBlock = some k ∨ w.heap.size ≤ k)
    (hW : Foot (fun _ => False) ((w1.setCell ⟨g, i * 3 + 2, none⟩ (.int .i64 (f.fl.sure : Int))).setCell ⟨g, i * 3 + 1, none⟩ f.bv) W)
    (hD : D' = { D with fs := (fs.set i f).map MF.fl }) (hg : Dsk.Good D') (r : Int) : Did w d S (D', r) r W := by
  have hmem := List.getElem_mem hi
  have hgl : g < w.heap.size := owns_lt h.files.row rfl
  have hgi : fs[i].bv.ownBlock ≠ some g := fun e => (h.files.off _ hmem g e).2 rfl
  have hrow1 := owns_foot h.files.row h1 (fun k e e' => by
    have : k = g := by injection e with e; exact e.symm
    subst this; exact hgi e')
  have hr2 := (World.ownsRow.stored (World.ownsRow.stored hrow1 (i * 3 + 2) (.int .i64 (f.fl.sure : Int))).1 (i * 3 + 1) f.bv).1
  have f0 : Foot (fun x => x = g) w1 ((w1.setCell ⟨g, i * 3 + 2, none⟩ (.int .i64 (f.fl.sure : Int))).setCell ⟨g, i * 3 + 1, none⟩ f.bv) :=
    (Foot.set (fun x => x = g) w1 _ _ rfl).trans (Foot.set (fun x => x = g) _ _ _ rfl) fun _ _ h => h
  have f1 : Foot (fun x => x = g) w1 W := f0.trans hW fun _ _ h => h.elim
  have f2 : Foot (fun x => fs[i].bv.ownBlock = some x ∨ x = g) w W := (h1.mono fun _ _ h => .inl h).trans f1 fun _ _ h => .inr h
  have hput := h.put hi f (w' := W) (by
      rw [rowCells_set fs hi f hn]
      exact owns_foot hr2 hW fun _ _ e => e) (owns_foot hb f1 fun k e (e' : k = g) => by
        rcases hk k e with h' | h'
        · rw [e'] at h'; exact hgi h'
        · omega) hk f2 (fun k _ e => e.elim .inr fun e => .inl (by rw [e]; rfl)) hD hg
  refine ⟨rfl, _, hput, f2.mono fun k _ e => ?_, fun k e => ?_⟩
  · rcases e with e | e
    · exact h.inS k (.inr (.inr ⟨_, hmem, e⟩))
    · exact h.inS k (.inr (.inl (by rw [e]; rfl)))
  · rcases e with e | e
    · exact .inl e
    · rcases hk k e with e | e
      · exact .inl (h.inS k (.inr (.inr ⟨_, hmem, e⟩)))
      · exact .inr e
/-- The cells of a file of a disk. -/
theorem DiskAt.file {i g c : Nat} (h : DiskAt w d D S T (.slice (some ⟨g, 0, none⟩) fs.length c) fs left fv) (hi : i < fs.length) :
    ∃ A bc, fs[i].bv = .slice A fs[i].fl.data.length bc ∧ fs[i].fl.data.length ≤ bc ∧ bc ≤ maxLen ∧ fs[i].fl.data.length ≤ 1048576 ∧ fs[i].fl.sure ≤ fs[i].fl.data.length ∧ (A = none → fs[i].fl.data.length = 0 ∧ bc = 0) ∧
      w.cell? ⟨g, i * 3, none⟩ = some (.string fs[i].fl.name) ∧ w.cell? ⟨g, i * 3 + 1, none⟩ = some (.slice A fs[i].fl.data.length bc) ∧ w.cell? ⟨g, i * 3 + 2, none⟩ = some (.int .i64 (fs[i].fl.sure : Int)) ∧ ∀ o, w.frozen? ⟨g, o, none⟩ = false := by
  have hmem := List.getElem_mem hi
  obtain ⟨g', c', hv, _, _, _, b1, b2, b3, bz⟩ := h.files.at_ hi
  injection hv with hv1 _ _
  injection hv1 with hv1
  injection hv1 with hv1
  subst hv1
  obtain ⟨A, bc, hbv, q1, q2, q3⟩ := (h.files.bytes _ hmem).val
  have htot : fs[i].fl.data.length ≤ Dsk.total D.fs := by
    have : fs[i].fl ∈ D.fs := by rw [← h.fls]; exact List.mem_map_of_mem hmem
    have h2 := Dsk.total_sublist (List.singleton_sublist.2 this)
    rw [Dsk.total_cons] at h2
    omega
  have := h.good.room
  have := h.good.cap1
  exact ⟨A, bc, hbv, q1, q2, by omega, h.files.sure _ hmem, q3, b1, by rw [← hbv]; exact b2, b3, bz⟩
theorem keep_le (D : Dsk.Dk) (i : Nat) {g : Dsk.Fl → Dsk.Fl} (hg : Dsk.Good D) (hn : ∀ f, (g f).name = f.name) (hd : ∀ f, (g f).data.length ≤ f.data.length) (hs : ∀ f ∈ D.fs, (g f).sure ≤ (g f).data.length) : Dsk.Good { (Dsk.pass D).1 with fs := D.fs.modify i g } := by
  have := hg.modify i g hn hd hs (Dsk.pass D).1.down (Dsk.pass D).1.starts (Dsk.pass D).1.fail
  rw [← (pass_has D).1] at this
  exact this
set_option maxRecDepth 100000 in
set_option maxHeartbeats 1000000 in
theorem sync_cl {i g c b0 : Nat} (h : DiskAt w d D S T (.slice (some ⟨g, 0, none⟩) fs.length c) fs left fv) (hi : i < fs.length) (hb0 : w.cell? ⟨b0, 0, none⟩ = some (.pointer (some ⟨d, 0, none⟩))) :
    Calls Try.prog 53 #[.pointer (some ⟨g, i * 3, none⟩), .pointer (some ⟨b0, 0, none⟩)] w (AnyRet (Did w d S (Dsk.change D fun fs => fs.modify i Dsk.syncF))) := by
  have HP := Lib.hid (pass_at h)
  have HH := Lib.hid h
  clear h
  go_enter Try.func53, Try.ntmps53
  go_wp2_with fail
  refine HP.out.mono ?_
  rintro e w1 (⟨hp, rfl, left', h1, hf1⟩ | ⟨hp, rfl, h1, hf1⟩)
  · obtain ⟨A, bc, hbv, q1, q2, q3, q4, q5, b1, b2, b3, bz⟩ := h1.file hi
    have z2 := bz (i * 3 + 2)
    have HB := Lib.hid hbv
    have H1 := Lib.hid h1
    have HF := Lib.hid hf1
    have HPZ := Lib.hid hp
    clear hp h1 hf1 hbv q5 b1 bz
    go_wp2_with fail
    go_ret
    refine ⟨0, rfl, ?_⟩
    rw [change_ok HPZ.out]
    have hgood := keep_le D i (g := Dsk.syncF) HH.out.good (fun _ => rfl) (fun _ => Nat.le_refl _) (fun _ _ => Nat.le_refl _)
    have hrow := (World.ownsRow.stored H1.out.files.row (i * 3 + 2) (.int .i64 (fs[i].fl.data.length : Int))).1
    have hdid := H1.out.cells hi ⟨Dsk.syncF fs[i].fl, fs[i].bv⟩ rfl (Foot.refl _ _) (show Bytes w1 fs[i].bv fs[i].fl.data from H1.out.files.bytes fs[i] (List.getElem_mem hi)) (fun k e => .inl e) (W := w1.setCell ⟨g, i * 3 + 2, none⟩ (.int .i64 (fs[i].fl.data.length : Int))) (by
        show Foot (fun _ => False) ((w1.setCell ⟨g, i * 3 + 2, none⟩ (.int .i64 (fs[i].fl.data.length : Int))).setCell ⟨g, i * 3 + 1, none⟩ fs[i].bv) _
        rw [set_idle hrow (j := i * 3 + 1) (v := fs[i].bv) (by rw [List.getElem?_set_ne (by omega)]; exact (rowCells_at fs hi).2.1)]
        exact Foot.refl _ _) (D' := { (Dsk.pass D).1 with fs := D.fs.modify i Dsk.syncF }) (by
        rw [set_modify fs hi ⟨Dsk.syncF fs[i].fl, fs[i].bv⟩ Dsk.syncF rfl, HH.out.fls]) hgood 0
    obtain ⟨_, S', k1, k2, k3⟩ := hdid
    have hf1 := HF.out
    exact ⟨rfl, S', k1, (hf1.mono fun k _ (e : k = d) => by rw [e]; exact HH.out.inS d (.inl rfl)).trans k2 fun _ _ h => h, fun k hk => (k3 k hk).imp id fun h => Nat.le_trans hf1.size h⟩
  · have H1 := Lib.hid h1
    have HF := Lib.hid hf1
    have HPZ := Lib.hid hp
    clear hp h1 hf1
    go_wp2_with fail
    go_ret
    refine ⟨41, rfl, ?_⟩
    rw [change_no HPZ.out]
    exact ⟨HPZ.out.symm, S, H1.out, HF.out.mono fun k _ e => HH.out.inS k (e.elim .inl fun e => .inr (.inl e)), fun k hk => .inl hk⟩
theorem ask_is {nm : ByteArray} {what : Nat → Dsk.Dk × Int} (h1 : D.down = false) (h2 : nm ∈ Dsk.names D.fs) : Dsk.ask D nm what = what (Dsk.place (Dsk.names D.fs) nm) := by
  unfold Dsk.ask; rw [h1, if_neg (by simp), if_neg (by simpa using h2)]
theorem ask_isnt {nm : ByteArray} {what : Nat → Dsk.Dk × Int} (h1 : D.down = false) (h2 : nm ∉ Dsk.names D.fs) : Dsk.ask D nm what = (D, 4) := by
  unfold Dsk.ask; rw [h1, if_neg (by simp), if_pos h2]
theorem ask_off {nm : ByteArray} {what : Nat → Dsk.Dk × Int} (h1 : D.down = true) : Dsk.ask D nm what = (D, 41) := by
  unfold Dsk.ask; rw [h1, if_pos rfl]
/-- 'ask', of a disk: whatever is asked. -/
theorem ask_at {T : Nat → Prop} (nm : ByteArray) (k : Nat) (cb : Array Value) (what : Nat → Dsk.Dk × Int) (eg : ∀ args w, (callFunc k args).run Try.prog w = .ok (.enter k args) w) (h : DiskAt w d D S T v fs left fv)
    (hcl : ∀ gr c w1, v = .slice (some ⟨gr, 0, none⟩) fs.length c → D.down = false → Below w.heap.size w w1 → DiskAt w1 d D S T (.slice (some ⟨gr, 0, none⟩) fs.length c) fs left fv → Dsk.place (Dsk.names D.fs) nm < fs.length → nm ∈ Dsk.names D.fs →
      Calls Try.prog k (#[.pointer (some ⟨gr, Dsk.place (Dsk.names D.fs) nm * 3, none⟩)] ++ cb) w1 (AnyRet (Did w1 d S (what (Dsk.place (Dsk.names D.fs) nm))))) :
    Calls Try.prog 38 #[.pointer (some ⟨d, 0, none⟩), .string nm, .func (.func k) #[] cb] w (AnyRet (Did w d S (Dsk.ask D nm what))) := by
  have hd : IsDisk w d D S := ⟨T, v, fs, left, fv, h⟩
  have hfew := h.few
  cases hdn : D.down
  · by_cases hin : nm ∈ Dsk.names D.fs
    · rw [ask_is hdn hin]
      have hin' : nm ∈ MF.names fs := by rw [h.names]; exact hin
      obtain ⟨hp, _⟩ := Dsk.place_mem' h.good.rise hin
      rw [← h.len] at hp
      obtain ⟨gr, c, rfl, _⟩ := h.files.at_ hp
      have hh := h.head
      rw [hdn] at hh
      have := ask_found nm k cb (Did w d S (what (Dsk.place (Dsk.names D.fs) nm))) eg hh h.good.cap0 h.files h.rise (by omega) hin' (fun w1 hb => by
        rw [h.names]
        exact (hcl gr c w1 rfl hdn hb (h.below hb) hp hin).mono fun e w' ⟨r, he, hq⟩ => ⟨r, he, hq.from_ hb⟩)
      exact this
    · rw [ask_isnt hdn hin]
      have hh := h.head
      rw [hdn] at hh
      refine (ask_not nm _ hh h.good.cap0 h.files h.rise (by omega) (by rw [h.names]; exact hin)).mono ?_
      rintro e w' ⟨rfl, hb⟩
      exact ⟨4, rfl, Did.same hd 4 hb⟩
  · rw [ask_off hdn]
    have hh := h.head
    rw [hdn] at hh
    refine (ask_down nm _ hh h.good.cap0).mono ?_
    rintro e w' ⟨rfl, rfl⟩
    exact ⟨41, rfl, Did.same hd 41 (Below.refl _ _)⟩
theorem new_cell (w : World) (u : Value) (t : TypeId) : (w.alloc (.cells #[u] t)).cell? ⟨w.heap.size, 0, none⟩ = some u := cell_of_one (heap_alloc_new w _)
set_option maxRecDepth 100000 in
theorem sync_any (nm : ByteArray) (h : IsDisk w d D S) : Calls Try.prog 23 #[.pointer (some ⟨d, 0, none⟩), .string nm] w (AnyRet (Did w d S (Dsk.sync D nm))) := by
  obtain ⟨T, v, fs, left, fv, h⟩ := h
  have hb : Below w.heap.size w (w.alloc (.cells #[.pointer (some ⟨d, 0, none⟩)] 24)) := (Below.refl _ _).alloc (Nat.le_refl _) _
  have hnew := new_cell w (.pointer (some ⟨d, 0, none⟩)) 24
  have HA := Lib.hid (ask_at nm 53 #[.pointer (some ⟨w.heap.size, 0, none⟩)] (fun i => Dsk.change D fun fs => fs.modify i Dsk.syncF) (fun _ _ => (enters_of Try.func53 (by kernel_rfl) rfl) _ _) (h.below hb) (fun gr c w1 _ _ hb1 h1 hp _ =>
    sync_cl (b0 := w.heap.size) h1 hp ((hb1.cell (p := ⟨w.heap.size, 0, none⟩) (by simp)).trans hnew)))
  have HB := Lib.hid hb
  clear h hnew hb
  go_enter Try.func23, Try.ntmps23
  go_wp2_with fail
  refine HA.out.mono ?_
  rintro e w' ⟨r, rfl, hq⟩
  have HQ := Lib.hid hq
  clear hq
  go_wp2_with fail
  go_ret
  exact ⟨r, rfl, HQ.out.from_ HB.out⟩
end
end Go.Proofs.Ytceldekbkffhpaa
