/-
  Contract of Append.
-/
import Derived.Test.YtceldekbkffhpaaDAppend
import Derived.BigQuiet
import Derived.Lib.QuietBelow
namespace Go.Proofs.Ytceldekbkffhpaa
open Go.RowKit Go.Sort
section
variable {w w' : World} {d : Nat} {D : Dsk.Dk} {S T : Nat → Prop} {v : Value} {fs : List MF} {left : Int} {fv : Value}
theorem pass_is (h : IsDisk w d D S) : Calls Try.prog 52 #[.pointer (some ⟨d, 0, none⟩)] w (AnyRet (Did w d S (Dsk.pass D))) := by
  obtain ⟨T, v, fs, left, fv, h⟩ := h
  refine (pass_at h).mono ?_
  rintro e w1 (⟨hp, rfl, left', h1, hf1⟩ | ⟨hp, rfl, h1, hf1⟩)
  · exact ⟨0, rfl, hp.symm, S, ⟨T, v, fs, left', fv, h1⟩, hf1.mono fun k _ e => h.inS k (.inl e), fun k hk => .inl hk⟩
  · exact ⟨41, rfl, hp.symm, S, h1, hf1.mono fun k _ e => h.inS k (e.elim .inl fun e => .inr (.inl e)), fun k hk => .inl hk⟩
theorem Did.chain {R : Dsk.Dk × Int} {r : Int} {w1 : World} {S1 : Nat → Prop} (f1 : Foot S w w1) (k1 : ∀ k, S1 k → S k ∨ w.heap.size ≤ k) (h2 : Did w1 d S1 R r w') : Did w d S R r w' := by
  obtain ⟨e2, S2, i2, f2, k2⟩ := h2
  refine ⟨e2, S2, i2, f1.trans f2 fun k hk h => ?_, fun k hk => ?_⟩
  · rcases k1 k h with h | h
    · exact h
    · omega
  · rcases k2 k hk with h | h
    · exact k1 k h
    · exact .inr (Nat.le_trans f1.size h)
def moreF (s : ByteArray) (f : Dsk.Fl) : Dsk.Fl := { f with data := f.data ++ s.data.toList }
theorem app_fin {i g c : Nat} {v' : Value} {w2 W : World} (s : ByteArray) (h : DiskAt w d D S T (.slice (some ⟨g, 0, none⟩) fs.length c) fs left fv) (hi : i < fs.length)
    (hG : Grew w w2 5 1 fs[i].bv v' (fs[i].fl.data.length + s.size) (fs[i].fl.data.map byteV ++ Lib.strCells s)) (hW : Foot (fun _ => False) (w2.setCell ⟨g, i * 3 + 1, none⟩ v') W)
    (hg : Dsk.Good { D with fs := D.fs.modify i (moreF s) }) : Did w d S ({ D with fs := D.fs.modify i (moreF s) }, 0) 0 W := by
  obtain ⟨g1, g2, g3⟩ := hG
  have hmem := List.getElem_mem hi
  have hgi : fs[i].bv.ownBlock ≠ some g := fun e => (h.files.off _ hmem g e).2 rfl
  have hrow := owns_foot h.files.row g2 (fun k e e' => by
    have : k = g := by injection e with e; exact e.symm
    subst this; exact hgi e')
  refine h.cells hi ⟨moreF s fs[i].fl, v'⟩ rfl g2 (by
    show w2.ownsRow 0 _ 1 v' (fs[i].fl.data ++ s.data.toList).length ((fs[i].fl.data ++ s.data.toList).map byteV)
    rw [List.length_append, List.map_append]
    exact g1) g3 (W := W) ?_ ?_ hg 0
  · show Foot (fun _ => False) ((w2.setCell ⟨g, i * 3 + 2, none⟩ (.int .i64 (fs[i].fl.sure : Int))).setCell ⟨g, i * 3 + 1, none⟩ v') W
    rw [set_idle hrow (j := i * 3 + 2) (v := .int .i64 (fs[i].fl.sure : Int)) (rowCells_at fs hi).2.2]
    exact hW
  · rw [set_modify fs hi ⟨moreF s fs[i].fl, v'⟩ (moreF s) rfl, h.fls]
theorem DiskAt.shape (h : DiskAt w d D S T v fs left fv) : ∃ A c, v = .slice A fs.length c := by
  rcases h.files.row.2 with ⟨rfl, h0⟩ | ⟨g, cap, cur, rfl, _⟩
  · exact ⟨none, 0, by rw [h0]⟩
  · exact ⟨_, _, rfl⟩
theorem append_down (nm s : ByteArray) (h : IsDisk w d D S) (hd : D.down = true) : Calls Try.prog 22 #[.pointer (some ⟨d, 0, none⟩), .string nm, .string s] w (AnyRet (Did w d S (Dsk.append D nm s))) := by
  have hD := h
  obtain ⟨T, v, fs, left, fv, h⟩ := h
  have HR := Lib.hid (ready_any w h.head h.good.cap0)
  rw [hd] at HR
  have HW : Hid (Dsk.append D nm s = (D, 41)) := if_pos hd
  clear h
  go_enter Try.func22, Try.ntmps22
  go_wp2_with fail
  refine HR.out.mono ?_
  rintro e w' ⟨rfl, rfl⟩
  go_wp2_with fail
  go_ret
  exact ⟨41, rfl, by rw [HW.out]; exact Did.same hD 41 (Below.refl _ _)⟩
theorem append_not (nm s : ByteArray) (h : IsDisk w d D S) (hd : D.down = false) (hn : Dsk.isNm nm = false) : Calls Try.prog 22 #[.pointer (some ⟨d, 0, none⟩), .string nm, .string s] w (AnyRet (Did w d S (Dsk.append D nm s))) := by
  have hD := h
  obtain ⟨T, v, fs, left, fv, h⟩ := h
  have HR := Lib.hid (ready_any w h.head h.good.cap0)
  rw [hd] at HR
  have HN := Lib.hid hn
  have HW : Hid (Dsk.append D nm s = (D, 2)) := by unfold Hid Dsk.append; rw [hd, if_neg (by simp), if_pos hn]
  clear h hn
  go_enter Try.func22, Try.ntmps22
  go_wp2_with fail
  refine HR.out.mono ?_
  rintro e w' ⟨rfl, rfl⟩
  go_wp2_with fail
  refine (isName_any nm _).mono ?_
  rintro e w1 ⟨he, rfl⟩
  rw [HN.out] at he
  subst he
  go_wp2_with fail
  go_ret
  exact ⟨2, rfl, by rw [HW.out]; exact Did.same hD 2 (Below.refl _ _)⟩
set_option maxRecDepth 100000 in
set_option maxHeartbeats 1000000 in
theorem append_many (nm s : ByteArray) (h : IsDisk w d D S) (hd : D.down = false) (hn : Dsk.isNm nm = true) (hin : nm ∉ Dsk.names D.fs) (h16 : 16 ≤ D.fs.length) : Calls Try.prog 22 #[.pointer (some ⟨d, 0, none⟩), .string nm, .string s] w (AnyRet (Did w d S (Dsk.append D nm s))) := by
  have hD := h
  obtain ⟨T, v, fs, left, fv, h⟩ := h
  have HR := Lib.hid (ready_any w h.head h.good.cap0)
  rw [hd] at HR
  have HN := Lib.hid hn
  have HW : Hid (Dsk.append D nm s = (D, 40)) := by unfold Hid Dsk.append; rw [hd, if_neg (by simp), if_neg (by rw [hn]; simp), if_pos (.inl ⟨hin, h16⟩)]
  have hfew := h.few
  have HF := Lib.hid (find_any nm w h.head h.files h.rise (by omega))
  rw [decide_eq_false (by rw [h.names]; exact hin)] at HF
  obtain ⟨A, c, rfl⟩ := h.shape
  have t1 : decide ((16 : Int) ≤ (fs.length : Int)) = true := decide_eq_true (by have := h.len; omega)
  have HH := Lib.hid h
  clear h hn
  go_enter Try.func22, Try.ntmps22
  go_wp2_with fail
  refine HR.out.mono ?_
  rintro e w' ⟨rfl, rfl⟩
  go_wp2_with fail
  refine (isName_any nm _).mono ?_
  rintro e w1 ⟨he, rfl⟩
  rw [HN.out] at he
  subst he
  go_wp2_with fail
  refine HF.out.mono ?_
  rintro e w1 ⟨rfl, hb1⟩
  have h1 := HH.out.below hb1
  obtain ⟨c0, c1, _⟩ := h1.head.cells
  have k1 := cell_regrown c1
  clear h1
  go_wp2_with fail
  refine wp_region_quiet_below (by kernel_rfl) (by kernel_rfl) ?_
  repeat (go_big_quiet_step (fail))
  refine wpQuiet_nil ?_
  intro _ hw'
  obtain ⟨⟨dq, osq⟩, hw''⟩ := hw'
  subst hw''
  have hbq := below_regrown w1 dq osq
  generalize grow (redrawn w1 dq) osq = u2 at *
  clear k1
  go_wp2_with fail
  go_ret
  exact ⟨40, rfl, by rw [HW.out]; exact Did.same hD 40 (hb1.trans (hbq.mono hb1.size))⟩
end
end Go.Proofs.Ytceldekbkffhpaa
