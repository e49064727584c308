/-
  The walk of the law RecordsFit: it returns true and writes nothing that was there.
-/
import Derived.Test.YtcbeommmacnkgaaDoorRcWorks
import Derived.Test.YtcbeommmacnkgaaDoorFFrame1
namespace Go.Proofs.YtcbeommmacnkgaaDoor.recordsFitW
open Go.RowKit Crc
theorem frame_fits {p : ByteArray} (h : p.size < 8192) : ∃ T : ByteArray, frameR (tx p) = .tuple #[.string T, .int .i64 0] := by
  unfold frameR
  rw [if_neg (by rw [tx_len]; omega)]
  exact ⟨_, rfl⟩
set_option maxRecDepth 100000 in
set_option maxHeartbeats 4000000 in
theorem walk (r : Rec) (A A' : Option Addr) (c c' : Nat) (w : World) (hA : AskR w) (hE : EsB w.heap.size w (.slice A r.es.length c) r.es) (hF : FdB w.heap.size w (.slice A' r.fd.length c') r.fd) (_ : r.ints) :
    Calls Tryd.prog 6 #[.agg #[.int .i64 r.ki, .int .i64 r.st, .int .i64 r.ep, .int .i64 r.vi, .int .i64 r.fr, .int .i64 r.le, .slice A r.es.length c, .slice A' r.fd.length c']] w fun e w' => e = .returned (.bool true) ∧ Below w.heap.size w w' := by
  have hle := hE.len
  have hlf := hF.len
  obtain ⟨_, _, hv, h1, h2, -⟩ := hle
  injection hv with e1 e2 e3
  subst e1 e3
  clear e2
  obtain ⟨_, _, hv, k1, k2, -⟩ := hlf
  injection hv with e1 e2 e3
  subst e1 e3
  clear e2
  unfold maxLen at h2 k2
  have hb0 : Below w.heap.size w (w.alloc (.cells #[.int .i64 r.ki, .int .i64 r.st, .int .i64 r.ep, .int .i64 r.vi, .int .i64 r.fr, .int .i64 r.le, .slice A r.es.length c, .slice A' r.fd.length c'] 25)) := (Below.refl _ _).alloc (Nat.le_refl _) _
  have B0 : (w.alloc (.cells #[.int .i64 r.ki, .int .i64 r.st, .int .i64 r.ep, .int .i64 r.vi, .int .i64 r.fr, .int .i64 r.le, .slice A r.es.length c, .slice A' r.fd.length c'] 25)).heap[w.heap.size]? = some (.cells #[.int .i64 r.ki, .int .i64 r.st, .int .i64 r.ep, .int .i64 r.vi, .int .i64 r.fr, .int .i64 r.le, .slice A r.es.length c, .slice A' r.fd.length c'] 25 (0, 0)) := heap_alloc_new _ _
  have HG := Lib.hid (fun X => great_any r.ki r.st r.ep r.vi r.fr r.le r.es.length r.fd.length c c' A A' X (by omega) (by omega))
  have HW := Lib.hid (fun X (hX : Below w.heap.size w X) => recWorks_any (hA.keep hX))
  have HEN := Lib.hid (fun X (hX : Below w.heap.size w X) (hn : r.es.length ≤ 500) (hm : r.fd.length ≤ 1000) => recEncode_any r (hA.keep hX) (RdB.mono (RdB.below hE hX (Nat.le_refl _)) hX.size) (RdB.mono (RdB.below hF hX (Nat.le_refl _)) hX.size) (by omega) (by omega))
  have HM : Hid ((r.may = false ∧ r.encR = .tuple #[.string ⟨#[]⟩, .int .i64 2]) ∨ ∃ S T : ByteArray, S.size < 8192 ∧ r.encR = .tuple #[.string S, .int .i64 0] ∧ ∀ X, Calls Tryd.prog 18 #[.string S] X (NumPost (.tuple #[.string T, .int .i64 0]) X)) := by
    rcases hm : r.may with _ | _
    · exact .inl ⟨rfl, by unfold Rec.encR; rw [hm]; rfl⟩
    · have hf := Rec.fits hm
      have hs : (⟨r.enc.toArray⟩ : ByteArray).size < 8192 := by show r.enc.toArray.size < 8192; rw [List.size_toArray]; exact hf
      obtain ⟨T, hT⟩ := frame_fits hs
      refine .inr ⟨⟨r.enc.toArray⟩, T, hs, by unfold Rec.encR; rw [hm]; rfl, fun X => (frame_any _ X (by unfold maxLen; omega)).mono fun e w' h => ?_⟩
      rw [← hT]
      exact h
  have HB0 := Lib.hid hb0
  have HX0 := Lib.hid B0
  clear hA hE hF hb0 B0
  generalize r.encR = ER at *
  generalize r.may = my at *
  obtain ⟨ki, st, ep, vi, fr, le, es, fd⟩ := r
  dsimp only [Rec.v] at *
  go_enter Tryd.func6, Tryd.ntmps6
  go_wp2_with fail
  refine (HG.out _).mono ?_
  rintro e w1 ⟨rfl, hb1⟩
  have HB1 := Lib.hid (HB0.out.trans (hb1.mono HB0.out.size))
  have hX1 := (hb1.block w.heap.size (by simp)).trans HX0.out
  have c0 : w1.cell? ⟨w.heap.size, 0, none⟩ = some (.int .i64 ki) := by rw [Lib.cell_of_heap hX1]; rfl
  have c1 : w1.cell? ⟨w.heap.size, 1, none⟩ = some (.int .i64 st) := by rw [Lib.cell_of_heap hX1]; rfl
  have c2 : w1.cell? ⟨w.heap.size, 2, none⟩ = some (.int .i64 ep) := by rw [Lib.cell_of_heap hX1]; rfl
  have c3 : w1.cell? ⟨w.heap.size, 3, none⟩ = some (.int .i64 vi) := by rw [Lib.cell_of_heap hX1]; rfl
  have c4 : w1.cell? ⟨w.heap.size, 4, none⟩ = some (.int .i64 fr) := by rw [Lib.cell_of_heap hX1]; rfl
  have c5 : w1.cell? ⟨w.heap.size, 5, none⟩ = some (.int .i64 le) := by rw [Lib.cell_of_heap hX1]; rfl
  have c6 : w1.cell? ⟨w.heap.size, 6, none⟩ = some (.slice A es.length c) := by rw [Lib.cell_of_heap hX1]; rfl
  have c7 : w1.cell? ⟨w.heap.size, 7, none⟩ = some (.slice A' fd.length c') := by rw [Lib.cell_of_heap hX1]; rfl
  clear hb1 hX1 h1 k1
  rcases hgr : (decide (500 < es.length) || decide (1000 < fd.length)) with _ | _
  · simp only [Bool.or_eq_false_iff, decide_eq_false_iff_not] at hgr
    have HE2 := Lib.hid (HEN.out _ HB1.out (by omega) (by omega))
    clear hgr
    go_wp2_with fail
    refine (HE2.out).mono ?_
    rintro e w2 ⟨rfl, hb2⟩
    have HB2 := Lib.hid (HB1.out.trans (hb2.mono HB1.out.size))
    clear hb2 c0 c1 c2 c3 c4 c5 c6 c7 h2 k2
    rcases HM.out with ⟨rfl, rfl⟩ | ⟨S, T, hS, rfl, hFr⟩
    · go_wp2_with fail
      refine (HW.out _ HB2.out).mono ?_
      rintro e w3 ⟨rfl, hb3⟩
      have HB3 := Lib.hid (HB2.out.trans (hb3.mono HB2.out.size))
      clear hb3
      go_wp2_with fail
      go_ret
      exact ⟨rfl, HB3.out⟩
    · have HFR := Lib.hid hFr
      have t : decide ((S.size : Int) < 8192) = true := decide_eq_true (by omega)
      clear hFr
      go_wp2_with fail
      refine (HFR.out _).mono ?_
      rintro e w3 ⟨rfl, hb3⟩
      have HB3 := Lib.hid (HB2.out.trans (hb3.mono HB2.out.size))
      clear hb3
      go_wp2_with fail
      refine (HW.out _ HB3.out).mono ?_
      rintro e w4 ⟨rfl, hb4⟩
      have HB4 := Lib.hid (HB3.out.trans (hb4.mono HB3.out.size))
      clear hb4
      go_wp2_with fail
      go_ret
      exact ⟨rfl, HB4.out⟩
  · clear hgr
    go_wp2_with fail
    go_ret
    exact ⟨rfl, HB1.out⟩
end Go.Proofs.YtcbeommmacnkgaaDoor.recordsFitW
