/-
  Contract of Rename: the closure, and the call.
-/
import Derived.Test.YtceldekbkffhpaaDIns
import Derived.Test.YtceldekbkffhpaaDClone
namespace Go.Proofs.Ytceldekbkffhpaa
open Go.RowKit
section
variable {w w' : World} {d : Nat} {D : Dsk.Dk} {S T : Nat → Prop} {v : Value} {fs : List MF} {left : Int} {fv : Value}
def renWhat (D : Dsk.Dk) (from_ nw : ByteArray) (i : Nat) : Dsk.Dk × Int := if Dsk.isNm nw = false then (D, 2) else Dsk.change D fun fs => Dsk.renameF fs i from_ nw
theorem isNm_size {s : ByteArray} (h : Dsk.isNm s = true) : s.size ≤ 16 := by
  unfold Dsk.isNm at h
  simp at h
  exact h.2
/-- The new block that the moved file comes nw. -/
def Moved (w1 : World) (nw : ByteArray) (bv : Value) (sr : Nat) (s : Value) (wx : World) : Prop := ∃ nb, s = .pointer (some ⟨nb, 0, none⟩) ∧ wx.heap[nb]? = some (.cells #[.string nw, bv, .int .i64 (sr : Int)] 62 (0, 0)) ∧ w1.heap.size ≤ nb ∧ Below w1.heap.size w1 wx
/-- What the region that lays the moved file reads. -/
structure RenIn (w1 : World) (bt g o : Nat) (nw : ByteArray) (A : Option Addr) (L bc sr : Nat) : Prop where
  l1 : bt < w1.heap.size
  l2 : g < w1.heap.size
  c1 : w1.cell? ⟨bt, 0, none⟩ = some (.string nw)
  c2 : w1.cell? ⟨g, o + 1, none⟩ = some (.slice A L bc)
  c3 : w1.cell? ⟨g, o + 2, none⟩ = some (.int .i64 (sr : Int))
def RenS (w1 : World) (bt g o : Nat) (nw : ByteArray) (A : Option Addr) (L bc sr : Nat) (W : World) : Prop :=
  Below w1.heap.size w1 W ∧ W.cell? ⟨bt, 0, none⟩ = some (.string nw) ∧ W.cell? ⟨g, o + 1, none⟩ = some (.slice A L bc) ∧ W.cell? ⟨g, o + 2, none⟩ = some (.int .i64 (sr : Int))
section
variable {w1 W W' : World} {bt g o : Nat} {nw : ByteArray} {A : Option Addr} {L bc sr : Nat}
theorem RenIn.of (h : RenIn w1 bt g o nw A L bc sr) (hb : Below w1.heap.size w1 W) : RenS w1 bt g o nw A L bc sr W :=
  ⟨hb, (hb.cell (p := ⟨bt, 0, none⟩) h.l1).trans h.c1, (hb.cell (p := ⟨g, o + 1, none⟩) h.l2).trans h.c2, (hb.cell (p := ⟨g, o + 2, none⟩) h.l2).trans h.c3⟩
theorem RenIn.drew (h : RenIn w1 bt g o nw A L bc sr) : RenS w1 bt g o nw A L bc sr w1.drew := h.of (Below.refl _ _).drew
theorem RenIn.alloc (h : RenIn w1 bt g o nw A L bc sr) (ob : Obj) (hs : RenS w1 bt g o nw A L bc sr W) : RenS w1 bt g o nw A L bc sr (W.alloc ob) := h.of (hs.1.alloc hs.1.size ob)
theorem RenIn.call (h : RenIn w1 bt g o nw A L bc sr) (hs : RenS w1 bt g o nw A L bc sr W) (hb : Below W.heap.size W W') : RenS w1 bt g o nw A L bc sr W' := h.of (hs.1.trans (hb.mono hs.1.size))
theorem RenIn.sets (h : RenIn w1 bt g o nw A L bc sr) (u0 u1 u2 : Value) (hs : RenS w1 bt g o nw A L bc sr W) : RenS w1 bt g o nw A L bc sr (((W.setCell ⟨w1.heap.size, 0, none⟩ u0).setCell ⟨w1.heap.size, 1, none⟩ u1).setCell ⟨w1.heap.size, 2, none⟩ u2) :=
  h.of (((hs.1.setCell (p := ⟨w1.heap.size, 0, none⟩) (Nat.le_refl _) u0).setCell (p := ⟨w1.heap.size, 1, none⟩) (Nat.le_refl _) u1).setCell (p := ⟨w1.heap.size, 2, none⟩) (Nat.le_refl _) u2)
theorem new_block {u0 u1 u2 : Value} {t : TypeId} (hb : Below (w1.drew.alloc (.cells #[u0, u1, u2] t)).heap.size (w1.drew.alloc (.cells #[u0, u1, u2] t)) W) : W.heap[w1.heap.size]? = some (.cells #[u0, u1, u2] t (0, 0)) :=
  (hb.block w1.heap.size (by simp)).trans (heap_alloc_new w1.drew _)
theorem moved_sets {nb : Nat} {u0 u1 u2 : Value} {t : TypeId} (h : W.heap[nb]? = some (.cells #[u0, u1, u2] t (0, 0))) (x0 x1 x2 : Value) : (((W.setCell ⟨nb, 0, none⟩ x0).setCell ⟨nb, 1, none⟩ x1).setCell ⟨nb, 2, none⟩ x2).heap[nb]? = some (.cells #[x0, x1, x2] t (0, 0)) :=
  heap_setCell_same _ nb 2 _ _ _ (heap_setCell_same _ nb 1 _ _ _ (heap_setCell_same _ nb 0 _ _ _ h))
theorem new_three {u0 u1 u2 : Value} {t : TypeId} (hb : Below (w1.drew.alloc (.cells #[u0, u1, u2] t)).heap.size (w1.drew.alloc (.cells #[u0, u1, u2] t)) W) :
    W.cell? ⟨w1.heap.size, 0, none⟩ = some u0 ∧ W.cell? ⟨w1.heap.size, 1, none⟩ = some u1 ∧ W.cell? ⟨w1.heap.size, 2, none⟩ = some u2 ∧ W.frozen? ⟨w1.heap.size, 0, none⟩ = false ∧ W.frozen? ⟨w1.heap.size, 1, none⟩ = false ∧ W.frozen? ⟨w1.heap.size, 2, none⟩ = false := by
  have h : W.heap[w1.heap.size]? = some (.cells #[u0, u1, u2] t (0, 0)) := (hb.block w1.heap.size (by simp)).trans (heap_alloc_new w1.drew _)
  refine ⟨?_, ?_, ?_, frozen_of_row W _ _ _ _ h, frozen_of_row W _ _ _ _ h, frozen_of_row W _ _ _ _ h⟩ <;> (rw [cell_of_row W _ _ _ _ _ h]; rfl)
end
theorem owns_slice {w : World} {base : Nat} {e : TypeId} {sz n : Nat} {v : Value} {xs : List Value} (h : w.ownsRow base e sz v n xs) : ∃ A n' c, v = .slice A n' c := by
  rcases h.2 with ⟨rfl, _⟩ | ⟨g, cap, cur, rfl, _⟩
  · exact ⟨_, _, _, rfl⟩
  · exact ⟨_, _, _, rfl⟩
def RInsPost (w0 : World) (d bd : Nat) (v : Value) (n : Nat) (xs : List Value) (e : Ending) (w' : World) : Prop :=
  ∃ A' n' c', e = Ending.returned (.slice A' n' c') ∧ Hid (Grew w0 w' 62 3 v (.slice A' n' c') n xs) ∧ w'.cell? ⟨d, 1, none⟩ = some v ∧ w'.frozen? ⟨d, 1, none⟩ = false ∧ w'.cell? ⟨bd, 0, none⟩ = some (.pointer (some ⟨d, 0, none⟩))
/-- What the region that lays the moved file into the list reads, but the list. -/
structure PutIn (w4 : World) (d g bd nb : Nat) (x0 x1 x2 : Value) : Prop where
  l1 : bd < w4.heap.size ∧ bd ≠ d ∧ bd ≠ g
  l2 : nb < w4.heap.size ∧ nb ≠ d ∧ nb ≠ g
  c0 : w4.cell? ⟨bd, 0, none⟩ = some (.pointer (some ⟨d, 0, none⟩))
  c1 : w4.cell? ⟨nb, 0, none⟩ = some x0
  c2 : w4.cell? ⟨nb, 1, none⟩ = some x1
  c3 : w4.cell? ⟨nb, 2, none⟩ = some x2
def PutS (w4 : World) (d g bd nb : Nat) (x0 x1 x2 : Value) (W : World) : Prop :=
  Foot (fun k => k = d ∨ k = g) w4 W ∧ W.cell? ⟨bd, 0, none⟩ = some (.pointer (some ⟨d, 0, none⟩)) ∧ W.cell? ⟨nb, 0, none⟩ = some x0 ∧ W.cell? ⟨nb, 1, none⟩ = some x1 ∧ W.cell? ⟨nb, 2, none⟩ = some x2
section
variable {w4 W W' : World} {d g bd nb : Nat} {x0 x1 x2 : Value}
theorem PutIn.of (h : PutIn w4 d g bd nb x0 x1 x2) (hf : Foot (fun k => k = d ∨ k = g) w4 W) : PutS w4 d g bd nb x0 x1 x2 W :=
  ⟨hf, (hf.cell (p := ⟨bd, 0, none⟩) h.l1.1 (fun e => e.elim h.l1.2.1 h.l1.2.2)).trans h.c0, (hf.cell (p := ⟨nb, 0, none⟩) h.l2.1 (fun e => e.elim h.l2.2.1 h.l2.2.2)).trans h.c1, (hf.cell (p := ⟨nb, 1, none⟩) h.l2.1 (fun e => e.elim h.l2.2.1 h.l2.2.2)).trans h.c2, (hf.cell (p := ⟨nb, 2, none⟩) h.l2.1 (fun e => e.elim h.l2.2.1 h.l2.2.2)).trans h.c3⟩
theorem PutIn.drew (h : PutIn w4 d g bd nb x0 x1 x2) : PutS w4 d g bd nb x0 x1 x2 w4.drew := h.of (Foot.drew _ _)
theorem PutIn.alloc (h : PutIn w4 d g bd nb x0 x1 x2) (o : Obj) (hs : PutS w4 d g bd nb x0 x1 x2 W) : PutS w4 d g bd nb x0 x1 x2 (W.alloc o) := h.of (hs.1.trans (Foot.new (fun k => k = d ∨ k = g) _ _) fun _ _ e => e)
theorem PutIn.alloc2 (h : PutIn w4 d g bd nb x0 x1 x2) (o : Obj) : PutS w4 d g bd nb x0 x1 x2 (w4.alloc o).drew := h.of ((Foot.new (fun k => k = d ∨ k = g) w4 o).trans (Foot.drew _ _) fun _ _ e => e)
theorem PutIn.call {e : TypeId} {sz n : Nat} {v v' : Value} {xs : List Value} (h : PutIn w4 d g bd nb x0 x1 x2) (hv : v.ownBlock = some g) (hs : PutS w4 d g bd nb x0 x1 x2 W) (hg : Hid (Grew W W' e sz v v' n xs)) : PutS w4 d g bd nb x0 x1 x2 W' :=
  h.of (hs.1.trans hg.out.2.1 fun k _ (e : v.ownBlock = some k) => .inr (by rw [hv] at e; injection e with e; exact e.symm))
theorem PutIn.set (h : PutIn w4 d g bd nb x0 x1 x2) (u : Value) (hs : PutS w4 d g bd nb x0 x1 x2 W) : PutS w4 d g bd nb x0 x1 x2 (W.setCell ⟨d, 1, none⟩ u) := h.of (hs.1.trans (Foot.set (fun k => k = d ∨ k = g) _ _ _ (.inl rfl)) fun _ _ e => e)
end
set_option maxRecDepth 100000 in
set_option maxHeartbeats 8000000 in
theorem rename_cl {i g c bt bd bf : Nat} {from_ nw : ByteArray} (h : DiskAt w d D S T (.slice (some ⟨g, 0, none⟩) fs.length c) fs left fv) (hi : i < fs.length) (hbt : w.cell? ⟨bt, 0, none⟩ = some (.string nw)) (hbd : w.cell? ⟨bd, 0, none⟩ = some (.pointer (some ⟨d, 0, none⟩))) (hbf : w.cell? ⟨bf, 0, none⟩ = some (.string from_))
    (hoff : ∀ k, k = bt ∨ k = bd ∨ k = bf → k < w.heap.size ∧ k ≠ d ∧ k ≠ g) (hfrom : fs[i].fl.name = from_) (hip : Dsk.place (Dsk.names D.fs) from_ = i) :
    Calls Try.prog 58 #[.pointer (some ⟨g, i * 3, none⟩), .pointer (some ⟨bt, 0, none⟩), .pointer (some ⟨bd, 0, none⟩), .pointer (some ⟨bf, 0, none⟩)] w (AnyRet (Did w d S (renWhat D from_ nw i))) := by
  have hD : IsDisk w d D S := ⟨T, _, fs, left, fv, h⟩
  have HP := Lib.hid (pass_at h)
  have HH := Lib.hid h
  clear h
  cases hnm : Dsk.isNm nw
  · have HN := Lib.hid hnm
    clear hnm
    have HW : Hid (renWhat D from_ nw i = (D, 2)) := if_pos HN.out
    go_enter Try.func58, Try.ntmps58
    go_wp2_with fail
    refine (isName_any nw _).mono ?_
    rintro e w1 ⟨he, rfl⟩
    rw [HN.out] at he
    subst he
    go_wp2_with fail
    go_ret
    exact ⟨2, rfl, by rw [HW.out]; exact Did.same hD 2 (Below.refl _ _)⟩
  have hsz := isNm_size hnm
  have HN := Lib.hid hnm
  clear hnm
  have HW : Hid (renWhat D from_ nw i = Dsk.change D fun fs => Dsk.renameF fs i from_ nw) := if_neg (by rw [HN.out]; simp)
  go_enter Try.func58, Try.ntmps58
  go_wp2_with fail
  refine (isName_any nw _).mono ?_
  rintro e w0 ⟨he, rfl⟩
  rw [HN.out] at he
  subst he
  go_wp2_with fail
  refine HP.out.mono ?_
  rintro e w1 (⟨hp, rfl, left', h1, hf1⟩ | ⟨hp, rfl, h1, hf1⟩)
  · have k1 := (hf1.cell (p := ⟨bt, 0, none⟩) (hoff bt (.inl rfl)).1 (hoff bt (.inl rfl)).2.1).trans hbt
    have k2 := (hf1.cell (p := ⟨bd, 0, none⟩) (hoff bd (.inr (.inl rfl))).1 (hoff bd (.inr (.inl rfl))).2.1).trans hbd
    have k3 := (hf1.cell (p := ⟨bf, 0, none⟩) (hoff bf (.inr (.inr rfl))).1 (hoff bf (.inr (.inr rfl))).2.1).trans hbf
    have l1 : bt < w1.heap.size ∧ bd < w1.heap.size ∧ bf < w1.heap.size := ⟨Nat.lt_of_lt_of_le (hoff bt (.inl rfl)).1 hf1.size, Nat.lt_of_lt_of_le (hoff bd (.inr (.inl rfl))).1 hf1.size, Nat.lt_of_lt_of_le (hoff bf (.inr (.inr rfl))).1 hf1.size⟩
    have hgl : g < w1.heap.size := owns_lt h1.files.row rfl
    obtain ⟨A, bc, hbv, q1, q2, q3, q4, q5, b1, b2, b3, bz⟩ := h1.file hi
    have HBV := Lib.hid hbv
    have H1 := Lib.hid h1
    have HF := Lib.hid hf1
    have HPZ := Lib.hid hp
    have HOFF := Lib.hid hoff
    have HFROM := Lib.hid hfrom
    have HIP := Lib.hid hip
    have HB1 := Lib.hid hbt
    have HB2 := Lib.hid hbd
    have HB3 := Lib.hid hbf
    clear hp h1 hf1 hbv q5 b1 bz hoff hfrom hip hbt hbd hbf q1 q2 q3 q4
    obtain ⟨L, hL⟩ : ∃ L, L = fs[i].fl.data.length := ⟨_, rfl⟩
    obtain ⟨sr, hsr⟩ : ∃ sr, sr = fs[i].fl.sure := ⟨_, rfl⟩
    rw [← hL] at b2 HBV
    rw [← hsr] at b3
    have HLL := Lib.hid hL
    have HSR := Lib.hid hsr
    clear hL hsr
    have HCL := Lib.hid (fun W => clone_any nw W (by omega))
    have HC2 := Lib.hid ((clone_any nw (w1.alloc (.cells #[.string ⟨#[]⟩, .slice none 0 0, .int .i64 0] 62)).drew (by omega)).mono fun e w' ⟨h1, h2⟩ => And.intro h1 (And.intro h2 (And.intro (Lib.hid (new_block (w1 := w1) h2)) (new_three (w1 := w1) h2))))
    have HI := Lib.hid (⟨l1.1, hgl, k1, b2, b3⟩ : RenIn w1 bt g (i * 3) nw A L bc sr)
    go_upto_region 6 with fail
    go_cut [7] (fun s wx => Hid (Moved w1 nw (.slice A L bc) sr s wx))
    case first =>
      go_region_held3 (fun W => Below w1.heap.size w1 W ∧ W.cell? ⟨bt, 0, none⟩ = some (.string nw) ∧ W.cell? ⟨g, i * 3 + 1, none⟩ = some (.slice A L bc) ∧ W.cell? ⟨g, i * 3 + 2, none⟩ = some (.int .i64 (sr : Int)))
        (first | exact HI.out.drew | exact HI.out.alloc _ (by assumption) | exact HI.out.call (by assumption) (by assumption) | exact HI.out.alloc _ (HI.out.call HI.out.drew (by assumption)) | exact HI.out.sets _ _ _ (by assumption))
        (first
          | (go_at_call 51; ((with_reducible refine (HC2.out).mono ?_); rintro e w' ⟨rfl, hbc, hnb, n0, n1, n2, z0, z1, z2⟩))
          | (go_at_call 51; refine (HCL.out _).mono ?_; rintro e w' ⟨rfl, hbc⟩))
      · go_wp2_with fail
        go_meet
        case rel =>
          have hb : Below w1.heap.size w1 w' := (Below.refl _ w1).drew.trans hbc
          exact ⟨w'.heap.size, rfl, heap_alloc_new w' _, hb.size, hb.alloc hb.size _⟩
      · go_wp2_with fail
        go_meet
        case rel =>
          have hb : Below w1.heap.size w1 w' := ((Below.refl _ w1).alloc (Nat.le_refl _) _).drew.trans (Below.mono hbc (by simp))
          exact ⟨w1.heap.size, rfl, moved_sets hnb.out _ _ _, Nat.le_refl _, ((hb.setCell (p := ⟨w1.heap.size, 0, none⟩) (Nat.le_refl _) _).setCell (p := ⟨w1.heap.size, 1, none⟩) (Nat.le_refl _) _).setCell (p := ⟨w1.heap.size, 2, none⟩) (Nat.le_refl _) _⟩
    case rest =>
      obtain ⟨nb, rfl, hnbx, hnb1, hbx⟩ := hcut.out
      clear hcut k1 k2 k3
      have h2 := H1.out.below hbx
      have hfew2 := h2.few
      have HC1 := Lib.hid (cut_any from_ wc h2.head h2.files h2.rise (by omega))
      obtain ⟨lt1, lt2, lt3⟩ := l1
      have HK1 := Lib.hid (show wc.cell? ⟨bt, 0, none⟩ = some (.string nw) from (hbx.cell (p := ⟨bt, 0, none⟩) lt1).trans ((HF.out.cell (p := ⟨bt, 0, none⟩) (HOFF.out bt (.inl rfl)).1 (HOFF.out bt (.inl rfl)).2.1).trans HB1.out))
      have kx2 := show wc.cell? ⟨bd, 0, none⟩ = some (.pointer (some ⟨d, 0, none⟩)) from (hbx.cell (p := ⟨bd, 0, none⟩) lt2).trans ((HF.out.cell (p := ⟨bd, 0, none⟩) (HOFF.out bd (.inr (.inl rfl))).1 (HOFF.out bd (.inr (.inl rfl))).2.1).trans HB2.out)
      have kx3 := show wc.cell? ⟨bf, 0, none⟩ = some (.string from_) from (hbx.cell (p := ⟨bf, 0, none⟩) lt3).trans ((HF.out.cell (p := ⟨bf, 0, none⟩) (HOFF.out bf (.inr (.inr rfl))).1 (HOFF.out bf (.inr (.inr rfl))).2.1).trans HB3.out)
      have HK2 := Lib.hid kx2
      have H2 := Lib.hid h2
      have HNB := Lib.hid hnbx
      clear h2 hnbx b2 b3
      go_wp2_with fail
      refine HC1.out.mono ?_
      rintro e w2 ⟨v2, rfl, c1, c2, c3, c4⟩
      have h3 := H2.out.cutted c1 c2 c3 c4
      have HC3 := Lib.hid (show Foot (fun k => k = d ∨ k = g) wc w2 from c3.mono fun k _ e => e.imp id fun e => by injection e with e; exact e.symm)
      have hv2 : v2.ownBlock = some g := c4
      have hlt : ∀ k, k < w1.heap.size → k < wc.heap.size := fun k hk => Nat.lt_of_lt_of_le hk hbx.size
      have kx1 := (HC3.out.cell (p := ⟨bt, 0, none⟩) (hlt _ lt1) (fun e => e.elim (HOFF.out bt (.inl rfl)).2.1 (HOFF.out bt (.inl rfl)).2.2)).trans HK1.out
      have kx2 := (HC3.out.cell (p := ⟨bd, 0, none⟩) (hlt _ lt2) (fun e => e.elim (HOFF.out bd (.inr (.inl rfl))).2.1 (HOFF.out bd (.inr (.inl rfl))).2.2)).trans HK2.out
      have hfew3 := h3.few
      have HCC := Lib.hid (cut_any nw w2 h3.head h3.files h3.rise (by omega))
      have H3 := Lib.hid h3
      clear c1 c2 c3 c4 h3
      go_wp2_with fail
      refine HCC.out.mono ?_
      rintro e w3 ⟨v3, rfl, c1, c2, c3, c4⟩
      have h4 := H3.out.cutted c1 c2 c3 c4
      have hv3 : v3.ownBlock = some g := c4.trans hv2
      have HC4 := Lib.hid (HC3.out.trans (c3.mono fun k _ e => e.imp id fun e => by rw [hv2] at e; injection e with e; exact e.symm) fun _ _ e => e)
      have kx1 := (HC4.out.cell (p := ⟨bt, 0, none⟩) (hlt _ lt1) (fun e => e.elim (HOFF.out bt (.inl rfl)).2.1 (HOFF.out bt (.inl rfl)).2.2)).trans HK1.out
      have kx2 := (HC4.out.cell (p := ⟨bd, 0, none⟩) (hlt _ lt2) (fun e => e.elim (HOFF.out bd (.inr (.inl rfl))).2.1 (HOFF.out bd (.inr (.inl rfl))).2.2)).trans HK2.out
      have hfew4 := h4.few
      have HFD := Lib.hid (find_any nw w3 h4.head h4.files h4.rise (by omega))
      rw [decide_eq_false (show nw ∉ MF.names (delM (delM fs from_) nw) from by
        have := Dsk.not_del (fs := (delM fs from_).map MF.fl) (by have := H3.out.rise; exact this) nw
        rw [← delM_fl] at this
        exact this)] at HFD
      have H4 := Lib.hid h4
      have HV3 := Lib.hid hv3
      have HV2 := Lib.hid hv2
      clear c1 c2 c3 c4 h4 hv3 hv2
      have hpl := Dsk.place_le (MF.names (delM (delM fs from_) nw)) nw
      rw [MF.names_len] at hpl
      have HP0 : Hid (∃ p, p = Dsk.place (MF.names (delM (delM fs from_) nw)) nw) := ⟨_, rfl⟩
      obtain ⟨p, hpp⟩ := HP0.out
      rw [← hpp] at HFD hpl
      have HPP := Lib.hid hpp
      clear hpp HP0
      go_wp2_with fail
      refine HFD.out.mono ?_
      rintro e w4 ⟨rfl, hb4⟩
      have h5 := H4.out.below hb4
      have kx2 := (hb4.cell (p := ⟨bd, 0, none⟩) (Nat.lt_of_lt_of_le (hlt _ lt2) HC4.out.size)).trans kx2
      have hdl1 : d < w1.heap.size := H1.out.head.lt
      have hnbl : nb < wc.heap.size := lt_of_block HNB.out
      have hnb4 : w4.heap[nb]? = some (.cells #[.string nw, .slice A L bc, .int .i64 (sr : Int)] 62 (0, 0)) := (hb4.block nb (Nat.lt_of_lt_of_le hnbl HC4.out.size)).trans (HC4.out.kept HNB.out (fun e => by omega))
      have m0 : w4.cell? ⟨nb, 0, none⟩ = some (.string nw) := by rw [cell_of_row w4 nb 0 _ _ _ hnb4]; rfl
      have m1 : w4.cell? ⟨nb, 1, none⟩ = some (.slice A L bc) := by rw [cell_of_row w4 nb 1 _ _ _ hnb4]; rfl
      have m2 : w4.cell? ⟨nb, 2, none⟩ = some (.int .i64 (sr : Int)) := by rw [cell_of_row w4 nb 2 _ _ _ hnb4]; rfl
      obtain ⟨j0, j1, j2, j3, j4, j5, jz⟩ := h5.head.cells
      have z1 := jz 1
      have hl4 : bd < w4.heap.size ∧ nb < w4.heap.size ∧ d < w4.heap.size ∧ g < w4.heap.size := ⟨Nat.lt_of_lt_of_le (hlt _ lt2) (Nat.le_trans HC4.out.size hb4.size), Nat.lt_of_lt_of_le hnbl (Nat.le_trans HC4.out.size hb4.size), h5.head.lt, Nat.lt_of_lt_of_le (hlt _ hgl) (Nat.le_trans HC4.out.size hb4.size)⟩
      have hI := h5.foot (S' := fun _ => False) (w' := (w4.alloc (.cells #[.string nw, .slice A L bc, .int .i64 (sr : Int)] 62)).drew) ((Foot.new _ w4 _).trans (Foot.drew (fun _ => False) _) fun _ _ e => e) fun _ _ e => e
      have hins := insert_any v3 (delM (delM fs from_) nw).length p w4.heap.size (rowCells (delM (delM fs from_) nw)) (.string nw) (.slice A L bc) (.int .i64 (sr : Int)) (w4.alloc (.cells #[.string nw, .slice A L bc, .int .i64 (sr : Int)] 62)).drew hI.files.row (one_cells hI.files.one) hpl (by omega)
        (heap_alloc_new w4 _) (by rw [HV3.out]; intro e; injection e with e; omega) (fun u hu => by simp at hu; rcases hu with rfl | rfl | rfl <;> rfl)
      have a1 : (w4.alloc (.cells #[.string nw, .slice A L bc, .int .i64 (sr : Int)] 62)).cell? ⟨bd, 0, none⟩ = some (.pointer (some ⟨d, 0, none⟩)) := (World.cell?_of_block (Below.heap_alloc w4 _ bd hl4.1)).trans kx2
      have a2 : (w4.alloc (.cells #[.string nw, .slice A L bc, .int .i64 (sr : Int)] 62)).cell? ⟨d, 1, none⟩ = some v3 := (World.cell?_of_block (Below.heap_alloc w4 _ d hl4.2.2.1)).trans j1
      have HINS : Hid (Calls Try.prog 50 #[v3, .int .i64 (p : Int), .slice (some ⟨w4.heap.size, 0, none⟩) 1 1] (w4.alloc (.cells #[.string nw, .slice A L bc, .int .i64 (sr : Int)] 62)).drew
          (RInsPost (w4.alloc (.cells #[.string nw, .slice A L bc, .int .i64 (sr : Int)] 62)).drew d bd v3 ((delM (delM fs from_) nw).length + 1) ((rowCells (delM (delM fs from_) nw)).take (p * 3) ++ [.string nw, .slice A L bc, .int .i64 (sr : Int)] ++ (rowCells (delM (delM fs from_) nw)).drop (p * 3)))) :=
        hins.mono fun e w' ⟨v', h1, h2⟩ => by
          obtain ⟨A', n', c', rfl⟩ := owns_slice h2.1
          exact ⟨A', n', c', h1, Lib.hid h2, (h2.2.1.cell (p := ⟨d, 1, none⟩) hI.head.lt (fun e => hI.files.offd e)).trans hI.head.cells.2.1, (World.frozen?_of_block (h2.2.1.block d hI.head.lt fun e => hI.files.offd e)).trans (hI.head.cells.2.2.2.2.2.2 1), (h2.2.1.cell (p := ⟨bd, 0, none⟩) (Nat.lt_of_lt_of_le hl4.1 (by simp)) (fun e => by rw [HV3.out] at e; injection e with e; exact (HOFF.out bd (.inr (.inl rfl))).2.2 e.symm)).trans a1⟩
      have HPI := Lib.hid (⟨⟨hl4.1, (HOFF.out bd (.inr (.inl rfl))).2⟩, ⟨hl4.2.1, by omega, by omega⟩, kx2, m0, m1, m2⟩ : PutIn w4 d g bd nb (.string nw) (.slice A L bc) (.int .i64 (sr : Int)))
      have HFIN : Hid (∀ (v' : Value) (w' W : World), Grew (w4.alloc (.cells #[.string nw, .slice A L bc, .int .i64 (sr : Int)] 62)).drew w' 62 3 v3 v' ((delM (delM fs from_) nw).length + 1) ((rowCells (delM (delM fs from_) nw)).take (p * 3) ++ [.string nw, .slice A L bc, .int .i64 (sr : Int)] ++ (rowCells (delM (delM fs from_) nw)).drop (p * 3)) →
          Foot (fun _ => False) (w'.setCell ⟨d, 1, none⟩ v') W → Did w d S (renWhat D from_ nw i) 0 W) := by
        intro v' w' W hG hW
        have hmem := List.getElem_mem hi
        have hblk : ∀ k, fs[i].bv.ownBlock = some k → k ≠ d ∧ k ≠ g := fun k e => by
          obtain ⟨e1, e2⟩ := HH.out.files.off _ hmem k e
          exact ⟨e1, fun e' => e2 (by rw [e']; rfl)⟩
        have hfl2 : (delM (delM fs from_) nw).map MF.fl = Dsk.del (Dsk.del D.fs from_) nw := by rw [delM_fl, delM_fl, HH.out.fls]
        have hapart : ∀ f ∈ delM (delM fs from_) nw, MF.Apart f ⟨{ fs[i].fl with name := nw }, fs[i].bv⟩ := fun f hf => by
          have hf1 := (delM_sub (delM fs from_) nw).subset hf
          have hin : from_ ∈ MF.names fs := by
            rw [← HFROM.out]; exact List.mem_map_of_mem (List.mem_map_of_mem hmem)
          have hpl : Dsk.place (MF.names fs) from_ = i := by rw [HH.out.names]; exact HIP.out
          unfold delM at hf1
          rw [if_pos hin, hpl] at hf1
          obtain ⟨j, hj, hji, e⟩ := List.mem_eraseIdx_iff_getElem.1 hf1
          have hap := List.pairwise_iff_getElem.1 HH.out.files.apart
          intro k e1 e2
          rw [← e] at e1
          rcases Nat.lt_or_gt_of_ne hji with hlt' | hlt'
          · exact hap j i hj hi hlt' k e1 e2
          · exact hap i j hi hj hlt' k e2 e1
        have hsz : w.heap.size ≤ w4.heap.size := Nat.le_trans HF.out.size (Nat.le_trans hbx.size (Nat.le_trans HC4.out.size hb4.size))
        have hgood := HH.out.good.rename i from_ nw (fun f hf => by
          rw [HH.out.at_ hi] at hf
          injection hf with hf
          rw [← hf]; exact HFROM.out) HN.out (Dsk.pass D).1.down (Dsk.pass D).1.starts (Dsk.pass D).1.fail
        rw [← (pass_has D).1] at hgood
        have hby := hI.files
        have hmT : ∀ k, fs[i].bv.ownBlock = some k → S k ∧ ¬ T k := fun k e => ⟨HH.out.inS k (.inr (.inr ⟨_, hmem, e⟩)), fun ht => (HH.out.tOff k ht).2 (.inr (.inr ⟨_, hmem, e⟩))⟩
        have hltk : ∀ k, fs[i].bv.ownBlock = some k → k < w.heap.size := fun k e => HH.out.lt k (hmT k e).1
        have f04 : Foot (fun k => k = d ∨ k = g) w (w4.alloc (.cells #[.string nw, .slice A L bc, .int .i64 (sr : Int)] 62)).drew :=
          ((((HF.out.mono fun k _ (e : k = d) => (.inl e : k = d ∨ k = g)).trans (below_foot hbx : Foot (fun k => k = d ∨ k = g) w1 wc) fun _ _ e => e).trans HC4.out fun _ _ e => e).trans (below_foot hb4 : Foot (fun k => k = d ∨ k = g) w3 w4) fun _ _ e => e).trans ((Foot.new (fun k => k = d ∨ k = g) w4 _).trans (Foot.drew _ _) fun _ _ e => e) fun _ _ e => e
        have hbW0 : Bytes (w4.alloc (.cells #[.string nw, .slice A L bc, .int .i64 (sr : Int)] 62)).drew fs[i].bv fs[i].fl.data := owns_foot (HH.out.files.bytes _ hmem) f04 fun k e e' => e'.elim (hblk k e).1 (hblk k e).2
        have hcells : (⟨{ fs[i].fl with name := nw }, fs[i].bv⟩ : MF).cells = [.string nw, .slice A L bc, .int .i64 (sr : Int)] := by
          show [Value.string nw, fs[i].bv, .int .i64 (fs[i].fl.sure : Int)] = _
          rw [HBV.out, ← HSR.out]
        obtain ⟨g1, g2, g3⟩ := hG
        rw [← hcells] at g1
        have hput : Dsk.renameF D.fs i from_ nw = ((delM (delM fs from_) nw).insertIdx p ⟨{ fs[i].fl with name := nw }, fs[i].bv⟩).map MF.fl := by
          unfold Dsk.renameF
          rw [HH.out.at_ hi, ins_fl, hfl2, HPP.out]
          show Dsk.put _ _ = _
          unfold Dsk.put
          show List.insertIdx _ (Dsk.place (Dsk.names (Dsk.del (Dsk.del D.fs from_) nw)) nw) _ = _
          rw [show MF.names (delM (delM fs from_) nw) = Dsk.names (Dsk.del (Dsk.del D.fs from_) nw) from by unfold MF.names; rw [hfl2]]
        obtain ⟨q1, q2⟩ := hI.ins (D' := { (Dsk.pass D).1 with fs := Dsk.renameF D.fs i from_ nw }) ⟨{ fs[i].fl with name := nw }, fs[i].bv⟩ hpl g1
          (owns_foot hbW0 g2 fun k e e' => by rw [HV3.out] at e'; injection e' with e'; exact (hblk k e).2 e'.symm) hapart (fun k e => ⟨(hblk k e).1, fun e' => by rw [HV3.out] at e'; injection e' with e'; exact (hblk k e).2 e'.symm, Nat.lt_of_lt_of_le (hltk k e) (Nat.le_trans hsz (by simp))⟩) hmT g3 g2 hW
          (by rw [hput]) hgood
        rw [HW.out, change_ok HPZ.out]
        refine ⟨rfl, _, ⟨T, v', _, left', fv, q1⟩, (f04.mono fun k _ e => HH.out.inS k (e.elim .inl fun e => .inr (.inl (by rw [e]; rfl)))).trans q2 fun k _ e => HH.out.inS k (e.elim .inl fun e => .inr (.inl (by rw [HV3.out] at e; exact e))), fun k e => ?_⟩
        rcases e with e | e
        · exact .inl e
        · rcases g3 k e with e | e
          · exact .inl (HH.out.inS k (.inr (.inl (by rw [HV3.out] at e; exact e))))
          · right
            have e2 : w4.heap.size ≤ k := Nat.le_trans (by simp) e
            omega
      clear hins hI h5 j0 j2 j3 j4 j5 jz kx1 hnb4 HPI HV3 HV2 H4 H3 HFD HPP HC4 HC3 HCC HNB H2 HK2 HK1 HC1 hlt hb4 HI HC2 HCL HSR HLL HBV HB1 HB2 HB3 HIP HFROM HOFF HPZ HF H1 HN HH HP hbx hl4 hnbl kx3
      generalize (rowCells (delM (delM fs from_) nw)).take (p * 3) ++ [.string nw, .slice A L bc, .int .i64 (sr : Int)] ++ (rowCells (delM (delM fs from_) nw)).drop (p * 3) = XS at *
      go_wp2_with fail
      go_region_with (go_at_call 50; refine HINS.out.mono ?_; rintro e w' ⟨A', n', c', rfl, hgrew, hc1, hz1, hc2⟩)
      all_goals
        go_wp2_with fail
        go_ret
        exact ⟨0, rfl, HFIN.out _ _ _ hgrew.out (eqv_foot rfl rfl rfl rfl)⟩
  · have H1 := Lib.hid h1
    have HF := Lib.hid hf1
    have HPZ := Lib.hid hp
    clear hp h1 hf1
    go_wp2_with fail
    go_ret
    refine ⟨41, rfl, ?_⟩
    rw [HW.out, change_no HPZ.out]
    exact ⟨HPZ.out.symm, S, H1.out, HF.out.mono fun k _ e => HH.out.inS k (e.elim .inl fun e => .inr (.inl e)), fun k hk => .inl hk⟩
end
end Go.Proofs.Ytceldekbkffhpaa
