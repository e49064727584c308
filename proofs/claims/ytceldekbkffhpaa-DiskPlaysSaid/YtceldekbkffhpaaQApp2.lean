/-
  The contract of Append of the document's disk: the other cases.
-/
import Derived.Test.YtceldekbkffhpaaQApp
import Derived.Test.YtceldekbkffhpaaDApp3
namespace Go.Proofs.Ytceldekbkffhpaa
open Go.RowKit
section
variable {w w' : World} {d : Nat} {D : Dsk.Dk} {S : Nat → Prop} {v kv : Value} {set : Bool} {left : Nat} {K : List Int}
theorem qapp_down (nm s : ByteArray) (h : QAt w d D S v set left kv K) (hd : D.down = true) : Calls Try.prog 37 #[.pointer (some ⟨d, 0, none⟩), .string nm, .string s] w (AnyRet (DidQ w d S (Dsk.append D nm s))) := by
  have HQ := Lib.hid h
  have k2 := h.head.cells.2.2.1
  rw [hd] at k2
  have HW : Hid (Dsk.append D nm s = (D, 41)) := if_pos hd
  clear h
  go_enter Try.func37, Try.ntmps37
  go_wp2_with fail
  go_ret
  exact ⟨41, rfl, by rw [HW.out]; exact DidQ.same ⟨_, _, _, _, _, HQ.out⟩ 41 (Below.refl _ _)⟩
theorem qapp_not (nm s : ByteArray) (h : QAt w d D S v set left kv K) (hd : D.down = false) (hn : Dsk.isNm nm = false) : Calls Try.prog 37 #[.pointer (some ⟨d, 0, none⟩), .string nm, .string s] w (AnyRet (DidQ w d S (Dsk.append D nm s))) := by
  have HQ := Lib.hid h
  have HN := Lib.hid (qname_any nm)
  rw [hn] at HN
  have k2 := h.head.cells.2.2.1
  rw [hd] at k2
  have HW : Hid (Dsk.append D nm s = (D, 2)) := by unfold Hid Dsk.append; rw [hd, if_neg (by simp), if_pos hn]
  clear h hn
  go_enter Try.func37, Try.ntmps37
  go_wp2_with fail
  refine (HN.out _).mono ?_
  rintro e w1 ⟨rfl, rfl⟩
  go_wp2_with fail
  go_ret
  exact ⟨2, rfl, by rw [HW.out]; exact DidQ.same ⟨_, _, _, _, _, HQ.out⟩ 2 (Below.refl _ _)⟩
set_option maxRecDepth 100000 in
set_option maxHeartbeats 2000000 in
theorem qapp_many (nm s : ByteArray) (h : QAt w d D S v set left kv K) (hd : D.down = false) (hn : Dsk.isNm nm = true) (hm : nm ∉ Dsk.names D.fs) (h16 : 16 ≤ D.fs.length) : Calls Try.prog 37 #[.pointer (some ⟨d, 0, none⟩), .string nm, .string s] w (AnyRet (DidQ w d S (Dsk.append D nm s))) := by
  have HQ := Lib.hid h
  have HN := Lib.hid (qname_any nm)
  rw [hn] at HN
  have HF := Lib.hid (qfind_at nm h)
  rw [show findI D.fs nm = -1 from if_neg hm] at HF
  have HW : Hid (Dsk.append D nm s = (D, 40)) := by unfold Hid Dsk.append; rw [hd, if_neg (by simp), if_neg (by rw [hn]; simp), if_pos (.inl ⟨hm, h16⟩)]
  have k0 := h.head.cells.1
  have k2 := h.head.cells.2.2.1
  have k3 := h.head.cells.2.2.2.1
  rw [hd] at k2
  have hdl := lt_of_block h.head
  have hcap := h.good.cap1
  have hroom := h.good.room
  have hfew := h.few
  obtain ⟨A, c, hv, hlc, hcm, _⟩ := h.len
  have HS := Lib.hid (fun w1 (hb : Below w.heap.size w w1) => qsize_drew (h.below hb))
  have t1 : decide ((16 : Int) ≤ (D.fs.length : Int)) = true := decide_eq_true (by omega)
  clear hm
  clear h hn
  subst hv
  generalize Dsk.total D.fs = T at *
  have hcs : IntKind.i64.wrap ((D.cap : Int) - (T : Int)) = (D.cap : Int) - (T : Int) := IntWalk.i64_in _ (by omega)
  go_enter Try.func37, Try.ntmps37
  go_wp2_with fail
  refine (HN.out _).mono ?_
  rintro e w1 ⟨rfl, rfl⟩
  go_wp2_with fail
  refine HF.out.mono ?_
  rintro e w1 ⟨rfl, hb⟩
  have q0 := (hb.cell (p := ⟨d, 0, none⟩) hdl).trans k0
  have q3 := (hb.cell (p := ⟨d, 3, none⟩) hdl).trans k3
  have HS1 := Lib.hid (HS.out w1 hb)
  go_wp2_with fail
  go_quiet (fail)
  go_wp2_with fail
  go_ret
  exact ⟨40, rfl, by rw [HW.out]; exact DidQ.same ⟨_, _, _, _, _, HQ.out⟩ 40 (qsame_drewN hb _)⟩
set_option maxRecDepth 100000 in
set_option maxHeartbeats 2000000 in
theorem qapp_full1 (nm s : ByteArray) (h : QAt w d D S v set left kv K) (hd : D.down = false) (hn : Dsk.isNm nm = true) (hm : nm ∈ Dsk.names D.fs) (hf : D.cap < Dsk.total D.fs + s.size) : Calls Try.prog 37 #[.pointer (some ⟨d, 0, none⟩), .string nm, .string s] w (AnyRet (DidQ w d S (Dsk.append D nm s))) := by
  have HQ := Lib.hid h
  have HN := Lib.hid (qname_any nm)
  rw [hn] at HN
  have HF := Lib.hid (qfind_at nm h)
  rw [show findI D.fs nm = (Dsk.place (Dsk.names D.fs) nm : Int) from if_pos hm] at HF
  have HW : Hid (Dsk.append D nm s = (D, 40)) := by unfold Hid Dsk.append; rw [hd, if_neg (by simp), if_neg (by rw [hn]; simp), if_pos (.inr hf)]
  have k0 := h.head.cells.1
  have k2 := h.head.cells.2.2.1
  have k3 := h.head.cells.2.2.2.1
  rw [hd] at k2
  have hdl := lt_of_block h.head
  have hcap := h.good.cap1
  have hroom := h.good.room
  have hfew := h.few
  obtain ⟨A, c, hv, hlc, hcm, _⟩ := h.len
  have HS := Lib.hid (fun w1 (hb : Below w.heap.size w w1) => qsize_drew (h.below hb))
  generalize Dsk.place (Dsk.names D.fs) nm = p at *
  have t1 : decide ((p : Int) < 0) = false := decide_eq_false (by omega)
  have t2 : decide ((D.cap : Int) - (Dsk.total D.fs : Int) < (s.size : Int)) = true := decide_eq_true (by omega)
  clear hm
  clear h hn
  subst hv
  generalize Dsk.total D.fs = T at *
  have hcs : IntKind.i64.wrap ((D.cap : Int) - (T : Int)) = (D.cap : Int) - (T : Int) := IntWalk.i64_in _ (by omega)
  go_enter Try.func37, Try.ntmps37
  go_wp2_with fail
  refine (HN.out _).mono ?_
  rintro e w1 ⟨rfl, rfl⟩
  go_wp2_with fail
  refine HF.out.mono ?_
  rintro e w1 ⟨rfl, hb⟩
  have q0 := (hb.cell (p := ⟨d, 0, none⟩) hdl).trans k0
  have q3 := (hb.cell (p := ⟨d, 3, none⟩) hdl).trans k3
  have HS1 := Lib.hid (HS.out w1 hb)
  go_wp2_with fail
  go_quiet ((go_at_call 19; exact HS1.out _))
  go_wp2_with fail
  go_ret
  exact ⟨40, rfl, by rw [HW.out]; exact DidQ.same ⟨_, _, _, _, _, HQ.out⟩ 40 (qsame_drewN hb _)⟩
set_option maxRecDepth 100000 in
set_option maxHeartbeats 2000000 in
theorem qapp_full2 (nm s : ByteArray) (h : QAt w d D S v set left kv K) (hd : D.down = false) (hn : Dsk.isNm nm = true) (hm : nm ∉ Dsk.names D.fs) (h16 : ¬ 16 ≤ D.fs.length) (hf : D.cap < Dsk.total D.fs + s.size) : Calls Try.prog 37 #[.pointer (some ⟨d, 0, none⟩), .string nm, .string s] w (AnyRet (DidQ w d S (Dsk.append D nm s))) := by
  have HQ := Lib.hid h
  have HN := Lib.hid (qname_any nm)
  rw [hn] at HN
  have HF := Lib.hid (qfind_at nm h)
  rw [show findI D.fs nm = -1 from if_neg hm] at HF
  have HW : Hid (Dsk.append D nm s = (D, 40)) := by unfold Hid Dsk.append; rw [hd, if_neg (by simp), if_neg (by rw [hn]; simp), if_pos (.inr hf)]
  have k0 := h.head.cells.1
  have k2 := h.head.cells.2.2.1
  have k3 := h.head.cells.2.2.2.1
  rw [hd] at k2
  have hdl := lt_of_block h.head
  have hcap := h.good.cap1
  have hroom := h.good.room
  have hfew := h.few
  obtain ⟨A, c, hv, hlc, hcm, _⟩ := h.len
  have HS := Lib.hid (fun w1 (hb : Below w.heap.size w w1) => qsize_drew (h.below hb))
  have t1 : decide ((16 : Int) ≤ (D.fs.length : Int)) = false := decide_eq_false (by omega)
  have t2 : decide ((D.cap : Int) - (Dsk.total D.fs : Int) < (s.size : Int)) = true := decide_eq_true (by omega)
  clear hm
  clear h hn
  subst hv
  generalize Dsk.total D.fs = T at *
  have hcs : IntKind.i64.wrap ((D.cap : Int) - (T : Int)) = (D.cap : Int) - (T : Int) := IntWalk.i64_in _ (by omega)
  go_enter Try.func37, Try.ntmps37
  go_wp2_with fail
  refine (HN.out _).mono ?_
  rintro e w1 ⟨rfl, rfl⟩
  go_wp2_with fail
  refine HF.out.mono ?_
  rintro e w1 ⟨rfl, hb⟩
  have q0 := (hb.cell (p := ⟨d, 0, none⟩) hdl).trans k0
  have q3 := (hb.cell (p := ⟨d, 3, none⟩) hdl).trans k3
  have HS1 := Lib.hid (HS.out w1 hb)
  go_wp2_with fail
  go_quiet ((go_at_call 19; exact HS1.out _))
  go_wp2_with fail
  go_ret
  exact ⟨40, rfl, by rw [HW.out]; exact DidQ.same ⟨_, _, _, _, _, HQ.out⟩ 40 (qsame_drewN hb _)⟩
end
end Go.Proofs.Ytceldekbkffhpaa
