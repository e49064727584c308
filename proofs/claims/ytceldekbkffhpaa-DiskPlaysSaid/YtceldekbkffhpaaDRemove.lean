/-
  Contracts of Remove and Read: the closures, and the calls.
-/
import Derived.Test.YtceldekbkffhpaaDTrunc
import Derived.Laws.BytesString
namespace Go.Proofs.Ytceldekbkffhpaa
open Go.RowKit
theorem conv_bytes {w : World} {v : Value} {xs : List UInt8} (h : Bytes w v xs) : (convert 60 9 v).run Try.prog w = .ok (.string ⟨xs.toArray⟩) w := by
  rcases h.2 with ⟨rfl, h0⟩ | ⟨g, cap, cur, rfl, _, _, _⟩
  · have : xs = [] := List.eq_nil_of_length_eq_zero h0
    subst this
    exact run_convert_bytes_nil w 60 5 Try.underlying60 Try.underlying5 0 0 9 Try.underlying9
  · have hr := run_convert_bytes_arg (P := Try.prog) w 60 5 Try.underlying60 Try.underlying5 g 0 xs.length cap (xs.map fun c => (c.toNat : Int)) (by simp) (fun i hi => by
      rw [Nat.zero_add, World.ownsRow.cellAt h i (by omega)]
      simp [byteV, List.getD, hi]) 9 Try.underlying9
    rw [hr]
    simp only [strOfNums, List.map_map]
    rw [show ((fun n : Int => UInt8.ofNat n.toNat) ∘ fun c : UInt8 => (c.toNat : Int)) = id from by funext c; simp, List.map_id]
section
variable {w w' : World} {d : Nat} {D : Dsk.Dk} {S T : Nat → Prop} {v : Value} {fs : List MF} {left : Int} {fv : Value}
theorem delM_fl (fs : List MF) (nm : ByteArray) : (delM fs nm).map MF.fl = Dsk.del (fs.map MF.fl) nm := by
  unfold delM Dsk.del
  show List.map MF.fl (if nm ∈ Dsk.names (fs.map MF.fl) then _ else _) = _
  by_cases h : nm ∈ Dsk.names (fs.map MF.fl)
  · rw [if_pos h, if_pos h, List.eraseIdx_eq_take_drop_succ, List.eraseIdx_eq_take_drop_succ, List.map_append, List.map_take, List.map_drop]; rfl
  · rw [if_neg h, if_neg h]
theorem delM_sub (fs : List MF) (nm : ByteArray) : (delM fs nm).Sublist fs := by
  unfold delM
  split
  · exact List.eraseIdx_sublist _ _
  · exact List.Sublist.refl _
/-- Behind cut. -/
theorem DiskAt.cutted {v' : Value} {nm : ByteArray} (h : DiskAt w d D S T v fs left fv) (hh : Head w' d D.cap v' D.down D.starts left fv) (hf : Files w' d v' (delM fs nm)) (hW : Foot (fun k => k = d ∨ v.ownBlock = some k) w w') (hv : v'.ownBlock = v.ownBlock) :
    DiskAt w' d { D with fs := Dsk.del D.fs nm } S T v' (delM fs nm) left fv := by
  have hsub : ∀ k, OfFiles d v' (delM fs nm) k → OfFiles d v fs k := fun k hk => by
    rcases hk with e | e | ⟨f, hf, e⟩
    · exact .inl e
    · exact .inr (.inl (by rw [← hv]; exact e))
    · exact .inr (.inr ⟨f, (delM_sub fs nm).subset hf, e⟩)
  refine ⟨hh, hf, by rw [delM_fl, h.fls], h.fail.foot hW fun k hk e => (h.tOff k hk).2 (e.elim .inl fun e => .inr (.inl e)), fun k hk => ⟨(h.tOff k hk).1, fun e => (h.tOff k hk).2 (hsub k e)⟩, fun k hk => h.inS k (hsub k hk), fun k hk => Nat.lt_of_lt_of_le (h.lt k hk) hW.size, ?_⟩
  exact h.good.sub (Dsk.names_del D.fs nm) _ _ _
set_option maxRecDepth 100000 in
set_option maxHeartbeats 1000000 in
theorem remove_cl {i b0 b1 : Nat} {nm : ByteArray} (a : Value) (h : DiskAt w d D S T v fs left fv) (hb0 : w.cell? ⟨b0, 0, none⟩ = some (.pointer (some ⟨d, 0, none⟩))) (hb1 : w.cell? ⟨b1, 0, none⟩ = some (.string nm)) (hoff : b0 < w.heap.size ∧ b1 < w.heap.size ∧ b0 ≠ d ∧ b1 ≠ d) :
    Calls Try.prog 60 #[a, .pointer (some ⟨b0, 0, none⟩), .pointer (some ⟨b1, 0, none⟩)] w (AnyRet (Did w d S ((fun (_ : Nat) => Dsk.change D fun fs => Dsk.del fs nm) i))) := by
  have HP := Lib.hid (pass_at h)
  have HH := Lib.hid h
  clear h
  go_enter Try.func60, Try.ntmps60
  go_wp2_with fail
  refine HP.out.mono ?_
  rintro e w1 (⟨hp, rfl, left', h1, hf1⟩ | ⟨hp, rfl, h1, hf1⟩)
  · have g0 := (hf1.cell (p := ⟨b0, 0, none⟩) hoff.1 hoff.2.2.1).trans hb0
    have g1 := (hf1.cell (p := ⟨b1, 0, none⟩) hoff.2.1 hoff.2.2.2).trans hb1
    have hfew := h1.few
    have HC := Lib.hid (cut_any nm w1 h1.head h1.files h1.rise (by omega))
    have H1 := Lib.hid h1
    have HF := Lib.hid hf1
    have HPZ := Lib.hid hp
    clear hp h1 hf1 hb0 hb1
    go_wp2_with fail
    refine HC.out.mono ?_
    rintro e w2 ⟨v', rfl, q1, q2, q3, q4⟩
    have Q := Lib.hid (H1.out.cutted q1 q2 q3 q4)
    have HQ3 := Lib.hid q3
    clear q1 q2 q3 q4
    go_wp2_with fail
    go_ret
    refine ⟨0, rfl, ?_⟩
    show Did w d S (Dsk.change D fun fs => Dsk.del fs nm) 0 w2
    rw [change_ok HPZ.out]
    refine ⟨rfl, S, ⟨T, v', delM fs nm, left', fv, ?_⟩, (HF.out.mono fun k _ (e : k = d) => by rw [e]; exact HH.out.inS d (.inl rfl)).trans HQ3.out fun k _ e => HH.out.inS k (e.elim .inl fun e => .inr (.inl e)), fun k hk => .inl hk⟩
    have := Q.out
    rw [((pass_has D).2 HPZ.out).1] at this
    exact this
  · have H1 := Lib.hid h1
    have HF := Lib.hid hf1
    have HPZ := Lib.hid hp
    clear hp h1 hf1
    go_wp2_with fail
    go_ret
    refine ⟨41, rfl, ?_⟩
    show Did w d S (Dsk.change D fun fs => Dsk.del fs nm) 41 w1
    rw [change_no HPZ.out]
    exact ⟨HPZ.out.symm, S, H1.out, HF.out.mono fun k _ e => HH.out.inS k (e.elim .inl fun e => .inr (.inl e)), fun k hk => .inl hk⟩
set_option maxRecDepth 100000 in
theorem remove_any (nm : ByteArray) (h : IsDisk w d D S) : Calls Try.prog 29 #[.pointer (some ⟨d, 0, none⟩), .string nm] w (AnyRet (Did w d S (Dsk.remove D nm))) := by
  obtain ⟨T, v, fs, left, fv, h⟩ := h
  obtain ⟨n1, n2, hb, hsz⟩ := two_new w (.pointer (some ⟨d, 0, none⟩)) (.string nm) 24 9
  have HA := Lib.hid (ask_at nm 60 #[.pointer (some ⟨w.heap.size, 0, none⟩), .pointer (some ⟨w.heap.size + 1, 0, none⟩)] (fun _ => Dsk.change D fun fs => Dsk.del fs nm) (fun _ _ => (enters_of Try.func60 (by kernel_rfl) rfl) _ _) (h.below hb) (fun gr c w1 hv _ hb1 h1 hp _ =>
    remove_cl (i := 0) (b0 := w.heap.size) (b1 := w.heap.size + 1) _ h1 ((hb1.cell (p := ⟨w.heap.size, 0, none⟩) (by rw [hsz]; simp)).trans n1) ((hb1.cell (p := ⟨w.heap.size + 1, 0, none⟩) (by rw [hsz]; simp)).trans n2) (by
      have h1 := h.head.lt
      have h3 := hb1.size
      rw [hsz] at h3
      exact ⟨by omega, by omega, by omega, by omega⟩)))
  have HB := Lib.hid hb
  clear h n1 n2 hb hsz
  go_enter Try.func29, Try.ntmps29
  go_wp2_with fail
  refine HA.out.mono ?_
  rintro e w' ⟨r, rfl, hq⟩
  have HQ := Lib.hid hq
  clear hq
  go_wp2_with fail
  go_ret
  exact ⟨r, rfl, HQ.out.from_ HB.out⟩
/-! ### Read -/
def ReadPost (w : World) (R : List UInt8 × Int) (e : Ending) (w' : World) : Prop := e = .returned (.tuple #[.string ⟨R.1.toArray⟩, .int .i64 R.2]) ∧ Below w.heap.size w w'
set_option maxRecDepth 100000 in
theorem read_cl {g o bs n c : Nat} {A : Option Addr} {data : List UInt8} (h1 : w.cell? ⟨g, o + 1, none⟩ = some (.slice A n c)) (hb : Bytes w (.slice A n c) data) {u : Value} (hbs : w.cell? ⟨bs, 0, none⟩ = some u) (hfz : w.frozen? ⟨bs, 0, none⟩ = false) :
    Calls Try.prog 39 #[.pointer (some ⟨g, o, none⟩), .pointer (some ⟨bs, 0, none⟩)] w (AnyRet fun r w' => r = 0 ∧ w' = w.setCell ⟨bs, 0, none⟩ (.string ⟨data.toArray⟩)) := by
  have hcv := conv_bytes hb
  go_enter Try.func39, Try.ntmps39
  go_wp2
  go_ret
  exact ⟨0, rfl, rfl, rfl⟩
theorem below_box {B bs : Nat} {w0 w : World} {u : Value} (h : Below B w0 w) (hb : B ≤ bs) : Below B w0 (w.setCell ⟨bs, 0, none⟩ u) := h.setCell (p := ⟨bs, 0, none⟩) hb u
theorem cell_set_box {w : World} {a : Addr} {u v : Value} (h : w.cell? a = some u) : (w.setCell a v).cell? a = some v := World.cell?_setCell_same' _ _ _ (by rw [h]; rfl)
set_option maxRecDepth 100000 in
theorem read_any (nm : ByteArray) (h : IsDisk w d D S) : Calls Try.prog 11 #[.pointer (some ⟨d, 0, none⟩), .string nm] w (ReadPost w (Dsk.read D nm)) := by
  obtain ⟨T, v, fs, left, fv, h⟩ := h
  have hb : Below w.heap.size w (w.alloc (.cells #[.string ⟨#[]⟩] 9)) := (Below.refl _ _).alloc (Nat.le_refl _) _
  have hnew := new_cell w (.string ⟨#[]⟩) 9
  have hnf : (w.alloc (.cells #[.string ⟨#[]⟩] 9)).frozen? ⟨w.heap.size, 0, none⟩ = false := free_of_one (heap_alloc_new w _)
  have h0 := h.below hb
  have hfew := h.few
  have HN := Lib.hid hnew
  have HB := Lib.hid hb
  cases hdn : D.down
  · by_cases hin : nm ∈ Dsk.names D.fs
    · have hin' : nm ∈ MF.names fs := by rw [h.names]; exact hin
      obtain ⟨hp, _⟩ := Dsk.place_mem' h.good.rise hin
      rw [← h.len] at hp
      obtain ⟨gr, c, rfl, hrest⟩ := h.files.at_ hp
      clear hrest
      have hh := h0.head
      rw [hdn] at hh
      have hrd : Dsk.read D nm = (fs[Dsk.place (Dsk.names D.fs) nm].fl.data, 0) := by
        unfold Dsk.read; rw [hdn, if_neg (by simp), if_neg (by simpa using hin), h.at_ hp]; rfl
      have HR := Lib.hid hrd
      have HA := Lib.hid (ask_found nm 39 #[.pointer (some ⟨w.heap.size, 0, none⟩)] (fun r w' => r = 0 ∧ (∃ u, w'.cell? ⟨w.heap.size, 0, none⟩ = some u ∧ u = .string ⟨(fs[Dsk.place (Dsk.names D.fs) nm].fl.data).toArray⟩) ∧ Below w.heap.size w w') (fun _ _ => (enters_of Try.func39 (by kernel_rfl) rfl) _ _) hh h.good.cap0 h0.files h.rise (by omega) hin' (fun w1 hb1 => by
        rw [h.names]
        have h1 := h0.below hb1
        obtain ⟨A, bc, hbv, q1, q2, q3, q4, q5, b1, b2, b3, bz⟩ := h1.file hp
        have hby := h1.files.bytes fs[Dsk.place (Dsk.names D.fs) nm] (List.getElem_mem hp)
        rw [hbv] at hby
        have hc1 := (hb1.cell (p := ⟨w.heap.size, 0, none⟩) (by simp)).trans hnew
        have hz1 := (hb1.frozen (p := ⟨w.heap.size, 0, none⟩) (by simp)).trans hnf
        refine (read_cl b2 hby hc1 hz1).mono ?_
        rintro e w' ⟨r, rfl, rfl, rfl⟩
        exact ⟨0, rfl, rfl, ⟨_, cell_set_box hc1, rfl⟩, below_box (hb.trans (hb1.mono hb.size)) (Nat.le_refl _)⟩))
      clear h h0 hh hnew hnf hb hin hin' hrd
      generalize fs[Dsk.place (Dsk.names D.fs) nm].fl.data = data at *
      go_enter Try.func11, Try.ntmps11
      go_wp2_with fail
      refine HA.out.mono ?_
      rintro e w' ⟨r, rfl, rfl, ⟨u, hc, hu⟩, hbw⟩
      have HU := Lib.hid hu
      clear hu
      go_wp2_with fail
      go_ret2
      exact ⟨by rw [HR.out, HU.out]; rfl, hbw⟩
    · have hh := h0.head
      rw [hdn] at hh
      have HR : Hid (Dsk.read D nm = ([], 4)) := by unfold Hid Dsk.read; rw [hdn, if_neg (by simp), if_pos hin]
      have HA := Lib.hid (ask_not nm (.func (.func 39) #[] #[.pointer (some ⟨w.heap.size, 0, none⟩)]) hh h.good.cap0 h0.files h.rise (by omega) (by rw [h.names]; exact hin))
      clear h h0 hh hnew hnf hb hin
      go_enter Try.func11, Try.ntmps11
      go_wp2_with fail
      refine HA.out.mono ?_
      rintro e w' ⟨rfl, hb1⟩
      have hc1 := (hb1.cell (p := ⟨w.heap.size, 0, none⟩) (by simp)).trans HN.out
      go_wp2_with fail
      go_ret2
      exact ⟨by rw [HR.out]; rfl, HB.out.trans (hb1.mono HB.out.size)⟩
  · have hh := h0.head
    rw [hdn] at hh
    have HR : Hid (Dsk.read D nm = ([], 41)) := by unfold Hid Dsk.read; rw [hdn, if_pos rfl]
    have HA := Lib.hid (ask_down nm (.func (.func 39) #[] #[.pointer (some ⟨w.heap.size, 0, none⟩)]) hh h.good.cap0)
    clear h h0 hh hnf hb
    go_enter Try.func11, Try.ntmps11
    go_wp2_with fail
    refine HA.out.mono ?_
    rintro e w' ⟨rfl, rfl⟩
    go_wp2_with fail
    go_ret2
    exact ⟨by rw [HR.out]; rfl, HB.out⟩
end
end Go.Proofs.Ytceldekbkffhpaa
