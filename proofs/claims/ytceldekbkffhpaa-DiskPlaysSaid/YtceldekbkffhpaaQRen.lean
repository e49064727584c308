/-
  The contract of Rename of the document's disk.
-/
import Derived.Test.YtceldekbkffhpaaQApp3
namespace Go.Proofs.Ytceldekbkffhpaa
open Go.RowKit
theorem put_two {D : Dsk.Dk} (h : Dsk.Good D) {from_ tn : ByteArray} (hm : from_ ∈ Dsk.names D.fs) (ht : Dsk.isNm tn = true) (hp : Dsk.place (Dsk.names D.fs) from_ < D.fs.length) :
    ∃ F1 F2 : List Dsk.Fl, F1 = D.fs.eraseIdx (Dsk.place (Dsk.names D.fs) from_) ∧ F1.length ≤ 15 ∧ F1.Sublist D.fs ∧ F2.Sublist F1 ∧ tn ∉ Dsk.names F2 ∧
    ((tn ∈ Dsk.names F1 ∧ findI F1 tn = (Dsk.place (Dsk.names F1) tn : Int) ∧ F2 = F1.eraseIdx (Dsk.place (Dsk.names F1) tn)) ∨ (tn ∉ Dsk.names F1 ∧ findI F1 tn = -1 ∧ F2 = F1)) ∧
    Dsk.renameF D.fs (Dsk.place (Dsk.names D.fs) from_) from_ tn = Dsk.put F2 ⟨tn, D.fs[Dsk.place (Dsk.names D.fs) from_].data, D.fs[Dsk.place (Dsk.names D.fs) from_].sure⟩ ∧
    (∀ dn st fl, Dsk.Good ⟨D.cap, Dsk.put F2 ⟨tn, D.fs[Dsk.place (Dsk.names D.fs) from_].data, D.fs[Dsk.place (Dsk.names D.fs) from_].sure⟩, dn, st, fl⟩) := by
  have hd1 : Dsk.del D.fs from_ = D.fs.eraseIdx (Dsk.place (Dsk.names D.fs) from_) := if_pos hm
  have hf : D.fs[Dsk.place (Dsk.names D.fs) from_]? = some D.fs[Dsk.place (Dsk.names D.fs) from_] := List.getElem?_eq_getElem hp
  have hr : Dsk.renameF D.fs (Dsk.place (Dsk.names D.fs) from_) from_ tn = Dsk.put (Dsk.del (Dsk.del D.fs from_) tn) ⟨tn, D.fs[Dsk.place (Dsk.names D.fs) from_].data, D.fs[Dsk.place (Dsk.names D.fs) from_].sure⟩ := by
    unfold Dsk.renameF; rw [hf]
  have hs1 := Dsk.names_del D.fs from_
  have hg1 := h.sub hs1 D.down D.starts D.fail
  have hgr := fun dn st fl => h.rename (Dsk.place (Dsk.names D.fs) from_) from_ tn (fun f e => by rw [hf] at e; injection e with e; rw [← e]; exact (Dsk.place_mem' h.rise hm).2) ht dn st fl
  rw [hr] at hgr
  refine ⟨Dsk.del D.fs from_, Dsk.del (Dsk.del D.fs from_) tn, hd1, ?_, hs1, Dsk.names_del _ _, Dsk.not_del hg1.rise tn, ?_, hr, hgr⟩
  · rw [hd1, List.length_eraseIdx_of_lt hp]; have := h.few; omega
  · by_cases hm2 : tn ∈ Dsk.names (Dsk.del D.fs from_)
    · exact .inl ⟨hm2, if_pos hm2, if_pos hm2⟩
    · exact .inr ⟨hm2, if_neg hm2, if_neg hm2⟩
/-- The disk at a later world, and a box with a file beside it. -/
def OnQ (w0 : World) (S0 : Nat → Prop) (d : Nat) (D : Dsk.Dk) (v : Value) (set : Bool) (left : Nat) (kv : Value) (K : List Int) (b : Nat) (x y z : Value) (w : World) : Prop :=
  ∃ S, QAt w d D S v set left kv K ∧ Foot S0 w0 w ∧ (∀ k, S k → S0 k ∨ w0.heap.size ≤ k) ∧ ¬ S b ∧ w0.heap.size ≤ b ∧ w.heap[b]? = some (.cells #[x, y, z] 67 (0, 0))
theorem box3 {W : World} {B : Nat} {c0 c1 c2 : Value} {t : TypeId} (h : W.heap[B]? = some (.cells #[c0, c1, c2] t (0, 0))) :
    W.cell? ⟨B, 0, none⟩ = some c0 ∧ W.cell? ⟨B, 1, none⟩ = some c1 ∧ W.cell? ⟨B, 2, none⟩ = some c2 ∧ ∀ o, W.frozen? ⟨B, o, none⟩ = false := by
  refine ⟨?_, ?_, ?_, fun o => frozen_of_row W B o _ _ h⟩ <;> (rw [cell_of_row W B _ _ _ _ h]; rfl)
theorem box3_set {W : World} {B : Nat} {c0 c1 c2 : Value} {t : TypeId} (h : W.heap[B]? = some (.cells #[c0, c1, c2] t (0, 0))) (u : Value) : (W.setCell ⟨B, 0, none⟩ u).heap[B]? = some (.cells #[u, c1, c2] t (0, 0)) := heap_setCell_same W B 0 _ _ u h
section
variable {w0 w w' : World} {d b : Nat} {D : Dsk.Dk} {S0 S : Nat → Prop} {v kv x y z : Value} {set : Bool} {left : Nat} {K : List Int}
theorem OnQ.box (h : OnQ w0 S0 d D v set left kv K b x y z w) : w.cell? ⟨b, 0, none⟩ = some x ∧ w.cell? ⟨b, 1, none⟩ = some y ∧ w.cell? ⟨b, 2, none⟩ = some z ∧ w.frozen? ⟨b, 0, none⟩ = false := by
  obtain ⟨S, h1, h2, h3, h4, h5, h6⟩ := h
  obtain ⟨e1, e2, e3, e4⟩ := box3 h6
  exact ⟨e1, e2, e3, e4 0⟩
theorem OnQ.below (h : OnQ w0 S0 d D v set left kv K b x y z w) (hb : Below w.heap.size w w') : OnQ w0 S0 d D v set left kv K b x y z w' := by
  obtain ⟨S, h1, h2, h3, h4, h5, h6⟩ := h
  have hf : Foot S0 w w' := below_foot hb
  exact ⟨S, h1.below hb, h2.trans hf fun _ _ h => h, h3, h4, h5, (below_foot hb : Foot (fun _ => False) w w').kept h6 fun e => e⟩
theorem OnQ.rows {w1 : World} {v' : Value} {fs' : List Dsk.Fl} (h : OnQ w0 S0 d D v set left kv K b x y z w) (hd : S0 d) (hb : Below w.heap.size w w1) (hr : w1.ownsRow w.heap.size 67 3 v' fs'.length (qRow fs')) (hg : Dsk.Good { D with fs := fs' }) :
    OnQ w0 S0 d { D with fs := fs' } v' set left kv K b x y z (w1.setCell ⟨d, 3, none⟩ v') := by
  obtain ⟨S, h1, h2, h3, h4, h5, h6⟩ := h
  obtain ⟨q1, q2⟩ := h1.rows hb hr hg
  have hbl := lt_of_block h6
  refine ⟨_, q1, h2.trans (q2.mono fun k _ e => by rw [e]; exact hd) fun _ _ h => h, fun k hk => ?_, fun e => ?_, h5, q2.kept h6 fun e => h4 (by rw [e]; exact h1.din)⟩
  · rcases hk with hk | hk
    · exact h3 k hk
    · exact .inr (Nat.le_trans h2.size (World.ownsRow.lt hr k hk).1)
  · rcases e with e | e
    · exact h4 e
    · have := (World.ownsRow.lt hr b e).1; omega
theorem OnQ.named (h : OnQ w0 S0 d D v set left kv K b x y z w) (u : Value) : OnQ w0 S0 d D v set left kv K b u y z (w.setCell ⟨b, 0, none⟩ u) := by
  obtain ⟨S, h1, h2, h3, h4, h5, h6⟩ := h
  have hf : Foot (fun k => k = b) w (w.setCell ⟨b, 0, none⟩ u) := Foot.set (fun k => k = b) w _ _ rfl
  exact ⟨S, h1.foot hf fun k hk e => h4 (by rw [← e]; exact hk), h2.trans hf fun k hk e => by omega, h3, h4, h5, box3_set h6 u⟩
theorem OnQ.put {fn : ByteArray} {fd : List UInt8} {fu : Nat} (h : Hid (OnQ w0 S0 d D v set left kv K b x y z w)) (hd : S0 d) (hn : fn ∉ Dsk.names D.fs) (hl : D.fs.length ≤ 15) (hg : Dsk.Good { D with fs := Dsk.put D.fs ⟨fn, fd, fu⟩ }) :
    Calls Try.prog 65 #[.pointer (some ⟨d, 0, none⟩), .agg #[.string fn, .string (str fd), .int .i64 (fu : Int)]] w fun e w' => e = .returned (.tuple #[]) ∧ Hid (DidQ w0 d S0 ({ D with fs := Dsk.put D.fs ⟨fn, fd, fu⟩ }, 0) 0 w') := by
  obtain ⟨S, h1, h2, h3, h4, h5, h6⟩ := h.out
  refine (qput_at ⟨fn, fd, fu⟩ h1 hn hl hg).mono ?_
  rintro e w' ⟨rfl, v', q, hf, hnew⟩
  refine ⟨rfl, rfl, _, ⟨_, _, _, _, _, q⟩, h2.trans (hf.mono fun k _ e => by rw [e]; exact hd) fun _ _ h => h, fun k hk => ?_⟩
  rcases hk with hk | hk
  · exact h3 k hk
  · exact .inr (Nat.le_trans h2.size (hnew k hk))
theorem OnQ.find (nm : ByteArray) (h : Hid (OnQ w0 S0 d D v set left kv K b x y z w)) {r : Int} (hr : findI D.fs nm = r) :
    Calls Try.prog 64 #[.pointer (some ⟨d, 0, none⟩), .string nm] w fun e w' => e = .returned (.int .i64 r) ∧ Hid (OnQ w0 S0 d D v set left kv K b x y z w') := by
  subst hr
  obtain ⟨S, h1, _⟩ := h.out
  exact (qfind_at nm h1).mono fun e w' ⟨e1, hb⟩ => ⟨e1, h.out.below hb⟩
def RowOn (w0 : World) (S0 : Nat → Prop) (d : Nat) (D : Dsk.Dk) (set : Bool) (left : Nat) (kv : Value) (K : List Int) (b : Nat) (x y z : Value) (fs' : List Dsk.Fl) (e : Ending) (w' : World) : Prop :=
  ∃ A n c, e = .returned (.slice A n c) ∧ (∃ u, w'.cell? ⟨d, 3, none⟩ = some u) ∧ w'.frozen? ⟨d, 3, none⟩ = false ∧ Hid (OnQ w0 S0 d { D with fs := fs' } (.slice A n c) set left kv K b x y z (w'.setCell ⟨d, 3, none⟩ (.slice A n c)))
theorem OnQ.without (k : Nat) (h : Hid (OnQ w0 S0 d D v set left kv K b x y z w)) (hd : S0 d) {fs' : List Dsk.Fl} (he : fs' = D.fs.eraseIdx k) (hg : Dsk.Good { D with fs := fs' }) :
    Calls Try.prog 63 #[.pointer (some ⟨d, 0, none⟩), .int .i64 k] w (RowOn w0 S0 d D set left kv K b x y z fs') := by
  subst he
  obtain ⟨S, h1, _⟩ := h.out
  refine (qwithout_at k h1).mono ?_
  rintro e w' ⟨A, c, rfl, ho, hb⟩
  have hc := (h1.below hb).head.cells
  exact ⟨_, _, _, rfl, ⟨_, hc.2.2.2.1⟩, hc.2.2.2.2.2.2.2 3, h.out.rows hd hb ho hg⟩
theorem OnQ.start (h : QAt w d D S v set left kv K) (hf : Foot S0 w0 w) (hS : ∀ k, S k → S0 k ∨ w0.heap.size ≤ k) : OnQ w0 S0 d D v set left kv K w.heap.size x y z (w.alloc (.cells #[x, y, z] 67)) := by
  have hb : Below w.heap.size w (w.alloc (.cells #[x, y, z] 67)) := (Below.refl _ w).alloc (Nat.le_refl _) _
  exact ⟨S, h.below hb, hf.trans (below_foot hb : Foot S0 w _) fun _ _ h => h, hS, fun e => by have := h.lt _ e; omega, hf.size, heap_alloc_new w _⟩
set_option maxRecDepth 100000 in
set_option maxHeartbeats 2000000 in
theorem qren_there (nm tn : ByteArray) (h : QAt w d D S v set left kv K) (hd : D.down = false) (hm : nm ∈ Dsk.names D.fs) (ht : Dsk.isNm tn = true) : Calls Try.prog 32 #[.pointer (some ⟨d, 0, none⟩), .string nm, .string tn] w (AnyRet (DidQ w d S (Dsk.rename D nm tn))) := by
  have HQ := Lib.hid h
  have HF := Lib.hid (qthere_at nm h)
  have HN := Lib.hid (qname_any tn)
  rw [ht] at HN
  rw [there_yes hd hm] at HF
  have hi := (Dsk.place_mem' h.good.rise hm).1
  obtain ⟨F1, F2, hF1, hl1, hs1, hs2, hnot, hcase, hren, hgood⟩ := put_two h.good hm ht hi
  have HR : Hid (Dsk.rename D nm tn = Dsk.change D fun fs => Dsk.renameF fs (Dsk.place (Dsk.names D.fs) nm) nm tn) := by unfold Hid Dsk.rename; rw [qask_is hd hm, if_neg (by rw [ht]; simp)]
  generalize Dsk.place (Dsk.names D.fs) nm = p at *
  obtain ⟨g, c, hv, hlc, hcm, hgd, hgl, c1, c2, c3, cz⟩ := h.at_ hi
  subst hv
  unfold maxLen at hcm
  have hdin := h.din
  have hfew := h.few
  have HREN := Lib.hid hren
  have HGD := Lib.hid hgood
  have HS1 := Lib.hid hs1
  have HS2 := Lib.hid hs2
  have HCA := Lib.hid hcase
  have HF1 := Lib.hid hF1
  have HNOT := Lib.hid hnot
  clear h hm hren hgood hs1 hs2 hcase c1 c2 c3 cz hF1 hnot
  go_enter Try.func32, Try.ntmps32
  go_wp2_with fail
  refine HF.out.mono ?_
  rintro e w1 ⟨rfl, hb⟩
  have h1 := HQ.out.below hb
  have HC := Lib.hid (qchange_at h1 hd)
  have HB := Lib.hid hb
  clear h1 hb
  go_wp2_with fail
  refine (HN.out _).mono ?_
  rintro e w1' ⟨rfl, rfl⟩
  go_wp2_with fail
  refine HC.out.mono ?_
  rintro e w2 (⟨hp, rfl, left', h2, hf2⟩ | ⟨hp, rfl, h2, hf2⟩)
  · obtain ⟨hfs1, _, _⟩ := (pass_has D).2 hp
    have hcap1 := (pass_has D).1
    obtain ⟨cap1, fs1, dn1, st1, fl1, hD1⟩ : ∃ a b c e f, (Dsk.pass D).1 = ⟨a, b, c, e, f⟩ := ⟨_, _, _, _, _, rfl⟩
    rw [hD1] at h2 hfs1 hcap1
    obtain rfl : fs1 = D.fs := hfs1
    obtain rfl : cap1 = D.cap := hcap1
    obtain ⟨g2, c', hv2, _, _, hgd2, hgl2, b1, b2, b3, bz⟩ := h2.at_ (i := p) hi
    injection hv2 with hv2 _ _
    injection hv2 with hv2
    injection hv2 with hv2
    subst hv2
    have k3 := h2.head.cells.2.2.2.1
    have HO : Hid (OnQ w S d ⟨D.cap, D.fs, dn1, st1, fl1⟩ (.slice (some ⟨g, 0, none⟩) D.fs.length c) set left' kv K w2.heap.size (.string D.fs[p].name) (.string (str D.fs[p].data)) (.int .i64 (D.fs[p].sure : Int)) (w2.alloc (.cells #[.string D.fs[p].name, .string (str D.fs[p].data), .int .i64 (D.fs[p].sure : Int)] 67))) := OnQ.start h2 ((below_foot HB.out : Foot S w w1).trans (hf2.mono fun k _ e => by rw [e]; exact hdin) fun _ _ h => h) fun k hk => .inl hk
    have HG1 := Lib.hid (h2.good.sub HS1.out dn1 st1 fl1)
    have HG2 := Lib.hid (h2.good.sub (HS2.out.trans HS1.out) dn1 st1 fl1)
    have HP := Lib.hid hp
    have HD1 := Lib.hid hD1
    clear h2 hf2 hp hD1 bz
    have HW := Lib.hid (OnQ.without p HO hdin (D := ⟨D.cap, D.fs, dn1, st1, fl1⟩) HF1.out HG1.out)
    have HGP := Lib.hid (HGD.out dn1 st1 fl1)
    have HFIN : Hid (∀ W, DidQ w d S (⟨D.cap, Dsk.put F2 ⟨tn, D.fs[p].data, D.fs[p].sure⟩, dn1, st1, fl1⟩, 0) 0 W → DidQ w d S (Dsk.rename D nm tn) 0 W) := by
      intro W hW
      rw [HR.out, change_ok HP.out, HD1.out, HREN.out]
      exact hW
    clear HO HR HREN HGD HQ HC HF HB HP HD1
    generalize D.fs[p].name = a at *
    generalize D.fs[p].data = fd at *
    generalize D.fs[p].sure = fu at *
    go_wp2_with fail
    generalize w2.alloc (.cells #[.string a, .string (str fd), .int .i64 (fu : Int)] 67) = w3 at *
    generalize w2.heap.size = bx at *
    refine HW.out.mono ?_
    rintro e w4 ⟨A4, n4, c4, rfl, ⟨u4, hu4⟩, hz4, HO4⟩
    clear HW b1 b2 b3 k3 hgl2
    go_wp2_with fail
    generalize w4.setCell ⟨d, 3, none⟩ (.slice A4 n4 c4) = w5 at *
    clear hu4 hz4
    rcases HCA.out with ⟨_, hfi, hF2⟩ | ⟨_, hfi, hF2⟩
    · have HFI := Lib.hid (OnQ.find tn HO4 hfi)
      have HFF2 := Lib.hid hF2
      generalize Dsk.place (Dsk.names F1) tn = m at *
      clear hfi hF2 HCA
      refine HFI.out.mono ?_
      rintro e w6 ⟨rfl, HO6⟩
      have HW6 := Lib.hid (OnQ.without m HO6 hdin HFF2.out HG2.out)
      clear HFI HFF2 HO4 HO6
      go_wp2_with fail
      refine HW6.out.mono ?_
      rintro e w7 ⟨A7, n7, c7, rfl, ⟨u7, hu7⟩, hz7, HO7⟩
      clear HW6
      obtain ⟨x0, x1, x2, xz⟩ := HO7.out.box
      have HO9 := Lib.hid (HO7.out.named (.string tn))
      obtain ⟨y0, y1, y2, _⟩ := HO9.out.box
      have HPU := Lib.hid (OnQ.put (D := ⟨D.cap, F2, dn1, st1, fl1⟩) (fn := tn) (fd := fd) (fu := fu) HO9 hdin HNOT.out (Nat.le_trans HS2.out.length_le hl1) HGP.out)
      clear HO7 HO9
      go_wp2_with fail
      refine HPU.out.mono ?_
      rintro e w9 ⟨rfl, HD9⟩
      go_wp2_with fail
      go_ret
      exact ⟨0, rfl, HFIN.out _ HD9.out⟩
    · have HFI := Lib.hid (OnQ.find tn HO4 hfi)
      subst hF2
      clear hfi HCA
      refine HFI.out.mono ?_
      rintro e w8 ⟨rfl, HO7⟩
      clear HFI HO4
      obtain ⟨x0, x1, x2, xz⟩ := HO7.out.box
      have HO9 := Lib.hid (HO7.out.named (.string tn))
      obtain ⟨y0, y1, y2, _⟩ := HO9.out.box
      have HPU := Lib.hid (OnQ.put (D := ⟨D.cap, F2, dn1, st1, fl1⟩) (fn := tn) (fd := fd) (fu := fu) HO9 hdin HNOT.out (Nat.le_trans HS2.out.length_le hl1) HGP.out)
      clear HO7 HO9
      go_wp2_with fail
      refine HPU.out.mono ?_
      rintro e w9 ⟨rfl, HD9⟩
      go_wp2_with fail
      go_ret
      exact ⟨0, rfl, HFIN.out _ HD9.out⟩
  · go_wp2_with fail
    go_ret
    refine ⟨41, rfl, ?_⟩
    rw [HR.out, change_no hp]
    have h1 := HQ.out.below HB.out
    refine DidQ.from_ HB.out ⟨hp.symm, S, h2, hf2.mono fun k _ e => ?_, fun k hk => .inl hk⟩
    rcases e with e | e
    · rw [e]; exact h1.din
    · exact h1.vin k e
theorem qrename_any (nm tn : ByteArray) (h : IsQ w d D S) : Calls Try.prog 32 #[.pointer (some ⟨d, 0, none⟩), .string nm, .string tn] w (AnyRet (DidQ w d S (Dsk.rename D nm tn))) := by
  obtain ⟨v, set, left, kv, K, h⟩ := h
  cases hd : D.down
  · by_cases hm : nm ∈ Dsk.names D.fs
    · cases ht : Dsk.isNm tn
      · have HQ := Lib.hid h
        have HF := Lib.hid (qthere_at nm h)
        rw [there_yes hd hm] at HF
        have HN := Lib.hid (qname_any tn)
        rw [ht] at HN
        have HR : Hid (Dsk.rename D nm tn = (D, 2)) := by unfold Hid Dsk.rename; rw [qask_is hd hm, if_pos ht]
        generalize Dsk.place (Dsk.names D.fs) nm = p at *
        clear h hm
        go_enter Try.func32, Try.ntmps32
        go_wp2_with fail
        refine HF.out.mono ?_
        rintro e w1 ⟨rfl, hb⟩
        go_wp2_with fail
        refine (HN.out _).mono ?_
        rintro e w1' ⟨rfl, rfl⟩
        go_wp2_with fail
        go_ret
        exact ⟨2, rfl, by rw [HR.out]; exact DidQ.same ⟨v, set, left, kv, K, HQ.out⟩ 2 hb⟩
      · exact qren_there nm tn h hd hm ht
    · have HQ := Lib.hid h
      have HF := Lib.hid (qthere_at nm h)
      rw [there_no hd hm] at HF
      have HR := Lib.hid (show Dsk.rename D nm tn = (D, 4) from qask_no hd hm _)
      clear h hm
      go_enter Try.func32, Try.ntmps32
      go_wp2_with fail
      refine HF.out.mono ?_
      rintro e w1 ⟨rfl, hb⟩
      go_wp2_with fail
      go_ret
      exact ⟨4, rfl, by rw [HR.out]; exact DidQ.same ⟨v, set, left, kv, K, HQ.out⟩ 4 hb⟩
  · have HQ := Lib.hid h
    have HF := Lib.hid (qthere_at nm h)
    rw [there_down hd] at HF
    have HR := Lib.hid (show Dsk.rename D nm tn = (D, 41) from qask_dn hd _)
    clear h
    go_enter Try.func32, Try.ntmps32
    go_wp2_with fail
    refine HF.out.mono ?_
    rintro e w1 ⟨rfl, hb⟩
    go_wp2_with fail
    go_ret
    exact ⟨41, rfl, by rw [HR.out]; exact DidQ.same ⟨v, set, left, kv, K, HQ.out⟩ 41 hb⟩
end
end Go.Proofs.Ytceldekbkffhpaa
