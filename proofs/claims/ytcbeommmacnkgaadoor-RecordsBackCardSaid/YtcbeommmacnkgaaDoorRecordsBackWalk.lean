/-
  The walk of the law RecordsBack: it returns true and writes nothing that was there.
-/
import Derived.Test.YtcbeommmacnkgaaDoorRcWorks
import Derived.Test.YtcbeommmacnkgaaDoorRcSame
namespace Go.Proofs.YtcbeommmacnkgaaDoor.recordsBackW
open Go.RowKit
set_option maxRecDepth 100000 in
set_option maxHeartbeats 8000000 in
theorem walk (r : Rec) (A A' : Option Addr) (c c' : Nat) (s : ByteArray) (w : World) (hA : AskR w) (hE : EsB w.heap.size w (.slice A r.es.length c) r.es) (hF : FdB w.heap.size w (.slice A' r.fd.length c') r.fd) (_ : r.ints) (hs : s.size ≤ maxLen) :
    Calls Tryd.prog 5 #[.agg #[.int .i64 r.ki, .int .i64 r.st, .int .i64 r.ep, .int .i64 r.vi, .int .i64 r.fr, .int .i64 r.le, .slice A r.es.length c, .slice A' r.fd.length c'], .string s] w fun e w' => e = .returned (.bool true) ∧ Below w.heap.size w w' := by
  unfold maxLen at hs
  have hlen : r.es.length ≤ 9223372036854775807 ∧ r.fd.length ≤ 9223372036854775807 := by
    obtain ⟨_, _, _, h1, h2, -⟩ := hE.len
    obtain ⟨_, _, _, k1, k2, -⟩ := hF.len
    unfold maxLen at h2 k2
    omega
  have hb0 : Below w.heap.size w (w.alloc (.cells #[.int .i64 r.ki, .int .i64 r.st, .int .i64 r.ep, .int .i64 r.vi, .int .i64 r.fr, .int .i64 r.le, .slice A r.es.length c, .slice A' r.fd.length c'] 25)) := (Below.refl _ _).alloc (Nat.le_refl _) _
  have B0 : (w.alloc (.cells #[.int .i64 r.ki, .int .i64 r.st, .int .i64 r.ep, .int .i64 r.vi, .int .i64 r.fr, .int .i64 r.le, .slice A r.es.length c, .slice A' r.fd.length c'] 25)).heap[w.heap.size]? = some (.cells #[.int .i64 r.ki, .int .i64 r.st, .int .i64 r.ep, .int .i64 r.vi, .int .i64 r.fr, .int .i64 r.le, .slice A r.es.length c, .slice A' r.fd.length c'] 25 (0, 0)) := heap_alloc_new _ _
  have HG := Lib.hid (fun X => great_any r.ki r.st r.ep r.vi r.fr r.le r.es.length r.fd.length c c' A A' X hlen.1 hlen.2)
  have HW := Lib.hid (fun X (hX : Below w.heap.size w X) => recWorks_any (hA.keep hX))
  have HAK := Lib.hid (fun X (hX : Below w.heap.size w X) => hA.keep hX)
  have HEN := Lib.hid (fun X (hX : Below w.heap.size w X) (hn : r.es.length ≤ 500) (hm : r.fd.length ≤ 1000) => recEncode_any r (hA.keep hX) (RdB.mono (RdB.below hE hX (Nat.le_refl _)) hX.size) (RdB.mono (RdB.below hF hX (Nat.le_refl _)) hX.size) (by omega) (by omega))
  have HCK := Lib.hid (fun X (hX : Below w.heap.size w X) (hn : r.es.length ≤ 500) (hm : r.fd.length ≤ 1000) => recCheck_any r (hA.keep hX) (RdB.mono (RdB.below hE hX (Nat.le_refl _)) hX.size) (RdB.mono (RdB.below hF hX (Nat.le_refl _)) hX.size) (by omega) (by omega))
  have HSM := Lib.hid (fun X (hX : Below w.heap.size w X) {D D' : Option Addr} {d d' B3 B4 : Nat} (hb : EsB B3 X (.slice D r.es.length d) r.es) (hb' : FdB B4 X (.slice D' r.fd.length d') r.fd) (h3 : B3 ≤ X.heap.size) (h4 : B4 ≤ X.heap.size) =>
    same_any r.ki r.st r.ep r.vi r.fr r.le hb hb' (RdB.below hE hX (Nat.le_refl _) : EsB _ X (.slice A r.es.length c) r.es) (RdB.below hF hX (Nat.le_refl _) : FdB _ X (.slice A' r.fd.length c') r.fd) h3 h4 hX.size hX.size)
  have HM : Hid ((r.encR = .tuple #[.string ⟨#[]⟩, .int .i64 2] ∧ r.err = 2) ∨ ∃ S : ByteArray, S.size ≤ 1000000 ∧ r.encR = .tuple #[.string S, .int .i64 0] ∧ r.err = 0 ∧ decR? (bytesOf S) = some r) := by
    rcases hm : r.may with _ | _
    · exact .inl ⟨by unfold Rec.encR; rw [hm]; rfl, by unfold Rec.err; rw [hm]; rfl⟩
    · have hf := Rec.fits hm
      refine .inr ⟨⟨r.enc.toArray⟩, ?_, by unfold Rec.encR; rw [hm]; rfl, by unfold Rec.err; rw [hm]; rfl, ?_⟩
      · show r.enc.toArray.size ≤ 1000000
        rw [List.size_toArray]; omega
      · rw [show bytesOf ⟨r.enc.toArray⟩ = r.enc by simp [bytesOf]]
        exact decR_iff.2 ⟨hm, rfl⟩
  have HB0 := Lib.hid hb0
  have HX0 := Lib.hid B0
  clear hA hE hF hb0 B0
  rcases hgr : (decide (500 < r.es.length) || decide (1000 < r.fd.length)) with _ | _
  case true =>
    rw [hgr] at HG
    clear hgr HEN HCK HSM HM
    obtain ⟨ki, st, ep, vi, fr, le, es, fd⟩ := r
    dsimp only at *
    go_enter Tryd.func5, Tryd.ntmps5
    go_wp2_with fail
    refine (HG.out _).mono ?_
    rintro e w1 ⟨rfl, hb1⟩
    have HB1 := Lib.hid (HB0.out.trans (hb1.mono HB0.out.size))
    clear hb1
    go_wp2_with fail
    go_ret
    exact ⟨rfl, HB1.out⟩
  rw [hgr] at HG
  simp only [Bool.or_eq_false_iff, decide_eq_false_iff_not] at hgr
  by_cases hbig : 20000 < s.size
  · have t : decide (20000 < (s.size : Int)) = true := decide_eq_true (by omega)
    clear hgr HEN HCK HSM HM
    obtain ⟨ki, st, ep, vi, fr, le, es, fd⟩ := r
    dsimp only at *
    go_enter Tryd.func5, Tryd.ntmps5
    go_wp2_with fail
    refine (HG.out _).mono ?_
    rintro e w1 ⟨rfl, hb1⟩
    have HB1 := Lib.hid (HB0.out.trans (hb1.mono HB0.out.size))
    clear hb1
    go_wp2_with fail
    go_ret
    exact ⟨rfl, HB1.out⟩
  have t : decide (20000 < (s.size : Int)) = false := decide_eq_false (by omega)
  have HDS := Lib.hid (fun X (hX : Below w.heap.size w X) => recDecode_any (s := s) (by omega) (HAK.out X hX))
  have HDR := Lib.hid (fun X (hX : Below w.heap.size w X) (S : ByteArray) (hS : S.size ≤ 1000000) => recDecode_any (s := S) hS (HAK.out X hX))
  have HE2 := Lib.hid (fun X hX => HEN.out X hX (by omega) (by omega))
  have HC2 := Lib.hid (fun X hX => HCK.out X hX (by omega) (by omega))
  clear hgr hbig hlen HEN HCK
  rcases HM.out with ⟨e1, e2⟩ | ⟨S, hS, e1, e2, hdr⟩
  · rw [e1] at HE2
    rw [e2] at HC2
    clear HM e1 e2 HSM HDR
    obtain ⟨ki, st, ep, vi, fr, le, es, fd⟩ := r
    dsimp only [Rec.v] at *
    go_enter Tryd.func5, Tryd.ntmps5
    go_wp2_with fail
    refine (HG.out _).mono ?_
    rintro e w1 ⟨rfl, hb1⟩
    have HB1 := Lib.hid (HB0.out.trans (hb1.mono HB0.out.size))
    have hz1 : w.heap.size < w1.heap.size := by have := hb1.size; simp at this; omega
    have hX1 := (hb1.block w.heap.size (by simp)).trans HX0.out
    have HX1 := Lib.hid hX1
    have c0 : w1.cell? ⟨w.heap.size, 0, none⟩ = some (.int .i64 ki) := by rw [Lib.cell_of_heap hX1]; rfl
    have c1 : w1.cell? ⟨w.heap.size, 1, none⟩ = some (.int .i64 st) := by rw [Lib.cell_of_heap hX1]; rfl
    have c2 : w1.cell? ⟨w.heap.size, 2, none⟩ = some (.int .i64 ep) := by rw [Lib.cell_of_heap hX1]; rfl
    have c3 : w1.cell? ⟨w.heap.size, 3, none⟩ = some (.int .i64 vi) := by rw [Lib.cell_of_heap hX1]; rfl
    have c4 : w1.cell? ⟨w.heap.size, 4, none⟩ = some (.int .i64 fr) := by rw [Lib.cell_of_heap hX1]; rfl
    have c5 : w1.cell? ⟨w.heap.size, 5, none⟩ = some (.int .i64 le) := by rw [Lib.cell_of_heap hX1]; rfl
    have c6 : w1.cell? ⟨w.heap.size, 6, none⟩ = some (.slice A es.length c) := by rw [Lib.cell_of_heap hX1]; rfl
    have c7 : w1.cell? ⟨w.heap.size, 7, none⟩ = some (.slice A' fd.length c') := by rw [Lib.cell_of_heap hX1]; rfl
    clear hb1 hX1
    go_wp2_with fail
    refine (HE2.out _ HB1.out).mono ?_
    rintro e w2 ⟨rfl, hb2⟩
    have HB2 := Lib.hid (HB1.out.trans (hb2.mono HB1.out.size))
    have hX2 := (hb2.block w.heap.size hz1).trans HX1.out
    clear c0 c1 c2 c3 c4 c5 c6 c7
    have c0 : w2.cell? ⟨w.heap.size, 0, none⟩ = some (.int .i64 ki) := by rw [Lib.cell_of_heap hX2]; rfl
    have c1 : w2.cell? ⟨w.heap.size, 1, none⟩ = some (.int .i64 st) := by rw [Lib.cell_of_heap hX2]; rfl
    have c2 : w2.cell? ⟨w.heap.size, 2, none⟩ = some (.int .i64 ep) := by rw [Lib.cell_of_heap hX2]; rfl
    have c3 : w2.cell? ⟨w.heap.size, 3, none⟩ = some (.int .i64 vi) := by rw [Lib.cell_of_heap hX2]; rfl
    have c4 : w2.cell? ⟨w.heap.size, 4, none⟩ = some (.int .i64 fr) := by rw [Lib.cell_of_heap hX2]; rfl
    have c5 : w2.cell? ⟨w.heap.size, 5, none⟩ = some (.int .i64 le) := by rw [Lib.cell_of_heap hX2]; rfl
    have c6 : w2.cell? ⟨w.heap.size, 6, none⟩ = some (.slice A es.length c) := by rw [Lib.cell_of_heap hX2]; rfl
    have c7 : w2.cell? ⟨w.heap.size, 7, none⟩ = some (.slice A' fd.length c') := by rw [Lib.cell_of_heap hX2]; rfl
    clear hb2 hX2
    go_wp2_with fail
    refine (HC2.out _ HB2.out).mono ?_
    rintro e wt ⟨rfl, hbt⟩
    have HBt := Lib.hid (HB2.out.trans (hbt.mono HB2.out.size))
    clear hbt c0 c1 c2 c3 c4 c5 c6 c7 t hz1
    go_wp2_with fail
    refine (HDS.out _ HBt.out).mono ?_
    rintro e w6 ⟨hb6, h⟩
    have HB6 := Lib.hid (HBt.out.trans (hb6.mono HBt.out.size))
    clear hb6
    rcases h with ⟨_, rfl⟩ | ⟨x, B, B', b, b', hx, rfl, hE2, hF2⟩
    · have HB7 := Lib.hid (HB6.out.alloc HB6.out.size (.cells #[.int .i64 0, .int .i64 0, .int .i64 0, .int .i64 0, .int .i64 0, .int .i64 0, .slice none 0 0, .slice none 0 0] 25))
      have G := Lib.hid (fun X => same_any 0 0 0 0 0 0 (es := []) (fd := []) (A := none) (A' := none) (D := none) (D' := none) (c := 0) (c' := 0) (d := 0) (d' := 0) (B1 := 0) (B2 := 0) (B3 := 0) (B4 := 0) (w := X) (esb_nil 0 X) (fdb_nil 0 X) (esb_nil 0 X) (fdb_nil 0 X) (Nat.zero_le _) (Nat.zero_le _) (Nat.zero_le _) (Nat.zero_le _))
      simp only [List.length_nil] at G
      unfold recV0
      go_wp2_with fail
      refine (G.out _).mono ?_
      rintro e w8 ⟨rfl, hb8⟩
      have HB8 := Lib.hid (HB7.out.trans (hb8.mono HB7.out.size))
      clear hb8
      go_wp2_with fail
      refine (HW.out _ HB8.out).mono ?_
      rintro e w9 ⟨rfl, hb9⟩
      have HB9 := Lib.hid (HB8.out.trans (hb9.mono HB8.out.size))
      clear hb9
      go_wp2_with fail
      go_ret
      exact ⟨rfl, HB9.out⟩
    · obtain ⟨hxm, hxe⟩ := decR_iff.1 hx
      have hxb := Rec.bd hxm
      have HBX := Lib.hid (HB6.out.alloc HB6.out.size (.cells #[.int .i64 x.ki, .int .i64 x.st, .int .i64 x.ep, .int .i64 x.vi, .int .i64 x.fr, .int .i64 x.le, .slice B x.es.length b, .slice B' x.fd.length b'] 25))
      have hba : Below w6.heap.size w6 (w6.alloc (.cells #[.int .i64 x.ki, .int .i64 x.st, .int .i64 x.ep, .int .i64 x.vi, .int .i64 x.fr, .int .i64 x.le, .slice B x.es.length b, .slice B' x.fd.length b'] 25)) := (Below.refl _ _).alloc (Nat.le_refl _) _
      have hen := recEncode_any x (HAK.out _ HBX.out) (hE2.below hba).es (hF2.below hba).fd (by omega) (by omega)
      have hxs : (⟨x.enc.toArray⟩ : ByteArray) = s := by rw [hxe]; simp [bytesOf]
      have hr : x.encR = .tuple #[.string s, .int .i64 0] := by unfold Rec.encR; rw [hxm, ← hxs]; rfl
      rw [hr] at hen
      have GE := Lib.hid hen
      have GC := Lib.hid (fun X (hX : Below (w6.alloc (.cells #[.int .i64 x.ki, .int .i64 x.st, .int .i64 x.ep, .int .i64 x.vi, .int .i64 x.fr, .int .i64 x.le, .slice B x.es.length b, .slice B' x.fd.length b'] 25)).heap.size (w6.alloc (.cells #[.int .i64 x.ki, .int .i64 x.st, .int .i64 x.ep, .int .i64 x.vi, .int .i64 x.fr, .int .i64 x.le, .slice B x.es.length b, .slice B' x.fd.length b'] 25)) X) => recCheck_own (HAK.out _ (HBX.out.trans (hX.mono HBX.out.size))) ((hE2.below hba).below hX) ((hF2.below hba).below hX) (by omega) (by omega))
      rw [show x.err = 0 by unfold Rec.err; rw [hxm]; rfl] at GC
      have hss : (s.toList == s.toList) = true := beq_self_eq_true _
      clear hx hxm hxe hxb hba hen hxs hr hE2 hF2
      obtain ⟨yk, ys, ye, yv, yf, yl, yes, yfd⟩ := x
      dsimp only [Rec.v] at *
      go_wp2_with fail
      refine (GE.out).mono ?_
      rintro e w8 ⟨rfl, hb8⟩
      have GC2 := Lib.hid (GC.out _ hb8)
      have HB8 := Lib.hid (HBX.out.trans (hb8.mono HBX.out.size))
      have hY := (hb8.block w6.heap.size (Nat.lt_of_lt_of_le (Nat.lt_succ_self _) (Nat.le_of_eq (World.size_alloc _ _).symm))).trans (heap_alloc_new _ _)
      have d0 : w8.cell? ⟨w6.heap.size, 0, none⟩ = some (.int .i64 yk) := by rw [Lib.cell_of_heap hY]; rfl
      have d1 : w8.cell? ⟨w6.heap.size, 1, none⟩ = some (.int .i64 ys) := by rw [Lib.cell_of_heap hY]; rfl
      have d2 : w8.cell? ⟨w6.heap.size, 2, none⟩ = some (.int .i64 ye) := by rw [Lib.cell_of_heap hY]; rfl
      have d3 : w8.cell? ⟨w6.heap.size, 3, none⟩ = some (.int .i64 yv) := by rw [Lib.cell_of_heap hY]; rfl
      have d4 : w8.cell? ⟨w6.heap.size, 4, none⟩ = some (.int .i64 yf) := by rw [Lib.cell_of_heap hY]; rfl
      have d5 : w8.cell? ⟨w6.heap.size, 5, none⟩ = some (.int .i64 yl) := by rw [Lib.cell_of_heap hY]; rfl
      have d6 : w8.cell? ⟨w6.heap.size, 6, none⟩ = some (.slice B yes.length b) := by rw [Lib.cell_of_heap hY]; rfl
      have d7 : w8.cell? ⟨w6.heap.size, 7, none⟩ = some (.slice B' yfd.length b') := by rw [Lib.cell_of_heap hY]; rfl
      clear hb8 GC hY
      go_wp2_with fail
      refine (GC2.out).mono ?_
      rintro e w9 ⟨rfl, hb9⟩
      have HB9 := Lib.hid (HB8.out.trans (hb9.mono HB8.out.size))
      clear hb9
      go_wp2_with fail
      refine (HW.out _ HB9.out).mono ?_
      rintro e w10 ⟨rfl, hb10⟩
      have HB10 := Lib.hid (HB9.out.trans (hb10.mono HB9.out.size))
      clear hb10
      go_wp2_with fail
      go_ret
      exact ⟨rfl, HB10.out⟩
  · rw [e1] at HE2
    rw [e2] at HC2
    have HDEC := Lib.hid hdr
    have HSZ := Lib.hid hS
    clear HM e1 e2 hdr
    have HQ : Hid (∀ q : Rec, decR? (bytesOf S) = some q → q = r) := fun q h => (Option.some.inj (HDEC.out.symm.trans h)).symm
    have HNO : Hid (decR? (bytesOf S) ≠ none) := fun h => by have := HDEC.out.symm.trans h; cases this
    clear HDEC
    obtain ⟨ki, st, ep, vi, fr, le, es, fd⟩ := r
    dsimp only [Rec.v] at *
    go_enter Tryd.func5, Tryd.ntmps5
    go_wp2_with fail
    refine (HG.out _).mono ?_
    rintro e w1 ⟨rfl, hb1⟩
    have HB1 := Lib.hid (HB0.out.trans (hb1.mono HB0.out.size))
    have hz1 : w.heap.size < w1.heap.size := by have := hb1.size; simp at this; omega
    have hX1 := (hb1.block w.heap.size (by simp)).trans HX0.out
    have HX1 := Lib.hid hX1
    have c0 : w1.cell? ⟨w.heap.size, 0, none⟩ = some (.int .i64 ki) := by rw [Lib.cell_of_heap hX1]; rfl
    have c1 : w1.cell? ⟨w.heap.size, 1, none⟩ = some (.int .i64 st) := by rw [Lib.cell_of_heap hX1]; rfl
    have c2 : w1.cell? ⟨w.heap.size, 2, none⟩ = some (.int .i64 ep) := by rw [Lib.cell_of_heap hX1]; rfl
    have c3 : w1.cell? ⟨w.heap.size, 3, none⟩ = some (.int .i64 vi) := by rw [Lib.cell_of_heap hX1]; rfl
    have c4 : w1.cell? ⟨w.heap.size, 4, none⟩ = some (.int .i64 fr) := by rw [Lib.cell_of_heap hX1]; rfl
    have c5 : w1.cell? ⟨w.heap.size, 5, none⟩ = some (.int .i64 le) := by rw [Lib.cell_of_heap hX1]; rfl
    have c6 : w1.cell? ⟨w.heap.size, 6, none⟩ = some (.slice A es.length c) := by rw [Lib.cell_of_heap hX1]; rfl
    have c7 : w1.cell? ⟨w.heap.size, 7, none⟩ = some (.slice A' fd.length c') := by rw [Lib.cell_of_heap hX1]; rfl
    clear hb1 hX1
    go_wp2_with fail
    refine (HE2.out _ HB1.out).mono ?_
    rintro e w2 ⟨rfl, hb2⟩
    have HB2 := Lib.hid (HB1.out.trans (hb2.mono HB1.out.size))
    have hX2 := (hb2.block w.heap.size hz1).trans HX1.out
    have hz2 : w.heap.size < w2.heap.size := by have := hb2.size; omega
    have HX2 := Lib.hid hX2
    clear c0 c1 c2 c3 c4 c5 c6 c7
    have c0 : w2.cell? ⟨w.heap.size, 0, none⟩ = some (.int .i64 ki) := by rw [Lib.cell_of_heap hX2]; rfl
    have c1 : w2.cell? ⟨w.heap.size, 1, none⟩ = some (.int .i64 st) := by rw [Lib.cell_of_heap hX2]; rfl
    have c2 : w2.cell? ⟨w.heap.size, 2, none⟩ = some (.int .i64 ep) := by rw [Lib.cell_of_heap hX2]; rfl
    have c3 : w2.cell? ⟨w.heap.size, 3, none⟩ = some (.int .i64 vi) := by rw [Lib.cell_of_heap hX2]; rfl
    have c4 : w2.cell? ⟨w.heap.size, 4, none⟩ = some (.int .i64 fr) := by rw [Lib.cell_of_heap hX2]; rfl
    have c5 : w2.cell? ⟨w.heap.size, 5, none⟩ = some (.int .i64 le) := by rw [Lib.cell_of_heap hX2]; rfl
    have c6 : w2.cell? ⟨w.heap.size, 6, none⟩ = some (.slice A es.length c) := by rw [Lib.cell_of_heap hX2]; rfl
    have c7 : w2.cell? ⟨w.heap.size, 7, none⟩ = some (.slice A' fd.length c') := by rw [Lib.cell_of_heap hX2]; rfl
    clear hb2 hX2
    go_wp2_with fail
    refine (HC2.out _ HB2.out).mono ?_
    rintro e w3 ⟨rfl, hb3⟩
    have HB3 := Lib.hid (HB2.out.trans (hb3.mono HB2.out.size))
    have HX3 := Lib.hid ((hb3.block w.heap.size hz2).trans HX2.out)
    have hz3 : w.heap.size < w3.heap.size := by have := hb3.size; omega
    clear hb3 c0 c1 c2 c3 c4 c5 c6 c7
    go_wp2_with fail
    refine (HDR.out _ HB3.out S HSZ.out).mono ?_
    rintro e w4 ⟨hb4, h⟩
    have HB4 := Lib.hid (HB3.out.trans (hb4.mono HB3.out.size))
    have hX4 := (hb4.block w.heap.size hz3).trans HX3.out
    have hz4 : w.heap.size < w4.heap.size := by have := hb4.size; omega
    clear hb4
    rcases h with ⟨hno, _⟩ | ⟨q, D, D', d, d', hq, rfl, hEq, hFq⟩
    · exact (HNO.out hno).elim
    obtain rfl := HQ.out q hq
    dsimp only [Rec.v] at *
    have c0 : w4.cell? ⟨w.heap.size, 0, none⟩ = some (.int .i64 ki) := by rw [Lib.cell_of_heap hX4]; rfl
    have c1 : w4.cell? ⟨w.heap.size, 1, none⟩ = some (.int .i64 st) := by rw [Lib.cell_of_heap hX4]; rfl
    have c2 : w4.cell? ⟨w.heap.size, 2, none⟩ = some (.int .i64 ep) := by rw [Lib.cell_of_heap hX4]; rfl
    have c3 : w4.cell? ⟨w.heap.size, 3, none⟩ = some (.int .i64 vi) := by rw [Lib.cell_of_heap hX4]; rfl
    have c4 : w4.cell? ⟨w.heap.size, 4, none⟩ = some (.int .i64 fr) := by rw [Lib.cell_of_heap hX4]; rfl
    have c5 : w4.cell? ⟨w.heap.size, 5, none⟩ = some (.int .i64 le) := by rw [Lib.cell_of_heap hX4]; rfl
    have c6 : w4.cell? ⟨w.heap.size, 6, none⟩ = some (.slice A es.length c) := by rw [Lib.cell_of_heap hX4]; rfl
    have c7 : w4.cell? ⟨w.heap.size, 7, none⟩ = some (.slice A' fd.length c') := by rw [Lib.cell_of_heap hX4]; rfl
    have hba : Below w4.heap.size w4 (w4.alloc (.cells #[.int .i64 ki, .int .i64 st, .int .i64 ep, .int .i64 vi, .int .i64 fr, .int .i64 le, .slice D es.length d, .slice D' fd.length d'] 25)) := (Below.refl _ _).alloc (Nat.le_refl _) _
    have HBA := Lib.hid (HB4.out.trans (hba.mono HB4.out.size))
    have GS := Lib.hid (HSM.out _ HBA.out (hEq.below hba).es (hFq.below hba).fd (Nat.le_refl _) (Nat.le_refl _))
    clear hba hEq hFq hX4 hq
    go_wp2_with fail
    refine (GS.out).mono ?_
    rintro e wt ⟨rfl, hbt⟩
    have HBt := Lib.hid (HBA.out.trans (hbt.mono HBA.out.size))
    clear hbt c0 c1 c2 c3 c4 c5 c6 c7 t hz1 hz2 hz3 hz4
    go_wp2_with fail
    refine (HDS.out _ HBt.out).mono ?_
    rintro e w6 ⟨hb6, h⟩
    have HB6 := Lib.hid (HBt.out.trans (hb6.mono HBt.out.size))
    clear hb6
    rcases h with ⟨_, rfl⟩ | ⟨x, B, B', b, b', hx, rfl, hE2, hF2⟩
    · have HB7 := Lib.hid (HB6.out.alloc HB6.out.size (.cells #[.int .i64 0, .int .i64 0, .int .i64 0, .int .i64 0, .int .i64 0, .int .i64 0, .slice none 0 0, .slice none 0 0] 25))
      have G := Lib.hid (fun X => same_any 0 0 0 0 0 0 (es := []) (fd := []) (A := none) (A' := none) (D := none) (D' := none) (c := 0) (c' := 0) (d := 0) (d' := 0) (B1 := 0) (B2 := 0) (B3 := 0) (B4 := 0) (w := X) (esb_nil 0 X) (fdb_nil 0 X) (esb_nil 0 X) (fdb_nil 0 X) (Nat.zero_le _) (Nat.zero_le _) (Nat.zero_le _) (Nat.zero_le _))
      simp only [List.length_nil] at G
      unfold recV0
      go_wp2_with fail
      refine (G.out _).mono ?_
      rintro e w8 ⟨rfl, hb8⟩
      have HB8 := Lib.hid (HB7.out.trans (hb8.mono HB7.out.size))
      clear hb8
      go_wp2_with fail
      refine (HW.out _ HB8.out).mono ?_
      rintro e w9 ⟨rfl, hb9⟩
      have HB9 := Lib.hid (HB8.out.trans (hb9.mono HB8.out.size))
      clear hb9
      go_wp2_with fail
      go_ret
      exact ⟨rfl, HB9.out⟩
    · obtain ⟨hxm, hxe⟩ := decR_iff.1 hx
      have hxb := Rec.bd hxm
      have HBX := Lib.hid (HB6.out.alloc HB6.out.size (.cells #[.int .i64 x.ki, .int .i64 x.st, .int .i64 x.ep, .int .i64 x.vi, .int .i64 x.fr, .int .i64 x.le, .slice B x.es.length b, .slice B' x.fd.length b'] 25))
      have hba : Below w6.heap.size w6 (w6.alloc (.cells #[.int .i64 x.ki, .int .i64 x.st, .int .i64 x.ep, .int .i64 x.vi, .int .i64 x.fr, .int .i64 x.le, .slice B x.es.length b, .slice B' x.fd.length b'] 25)) := (Below.refl _ _).alloc (Nat.le_refl _) _
      have hen := recEncode_any x (HAK.out _ HBX.out) (hE2.below hba).es (hF2.below hba).fd (by omega) (by omega)
      have hxs : (⟨x.enc.toArray⟩ : ByteArray) = s := by rw [hxe]; simp [bytesOf]
      have hr : x.encR = .tuple #[.string s, .int .i64 0] := by unfold Rec.encR; rw [hxm, ← hxs]; rfl
      rw [hr] at hen
      have GE := Lib.hid hen
      have GC := Lib.hid (fun X (hX : Below (w6.alloc (.cells #[.int .i64 x.ki, .int .i64 x.st, .int .i64 x.ep, .int .i64 x.vi, .int .i64 x.fr, .int .i64 x.le, .slice B x.es.length b, .slice B' x.fd.length b'] 25)).heap.size (w6.alloc (.cells #[.int .i64 x.ki, .int .i64 x.st, .int .i64 x.ep, .int .i64 x.vi, .int .i64 x.fr, .int .i64 x.le, .slice B x.es.length b, .slice B' x.fd.length b'] 25)) X) => recCheck_own (HAK.out _ (HBX.out.trans (hX.mono HBX.out.size))) ((hE2.below hba).below hX) ((hF2.below hba).below hX) (by omega) (by omega))
      rw [show x.err = 0 by unfold Rec.err; rw [hxm]; rfl] at GC
      have hss : (s.toList == s.toList) = true := beq_self_eq_true _
      clear hx hxm hxe hxb hba hen hxs hr hE2 hF2
      obtain ⟨yk, ys, ye, yv, yf, yl, yes, yfd⟩ := x
      dsimp only [Rec.v] at *
      go_wp2_with fail
      refine (GE.out).mono ?_
      rintro e w8 ⟨rfl, hb8⟩
      have GC2 := Lib.hid (GC.out _ hb8)
      have HB8 := Lib.hid (HBX.out.trans (hb8.mono HBX.out.size))
      have hY := (hb8.block w6.heap.size (Nat.lt_of_lt_of_le (Nat.lt_succ_self _) (Nat.le_of_eq (World.size_alloc _ _).symm))).trans (heap_alloc_new _ _)
      have d0 : w8.cell? ⟨w6.heap.size, 0, none⟩ = some (.int .i64 yk) := by rw [Lib.cell_of_heap hY]; rfl
      have d1 : w8.cell? ⟨w6.heap.size, 1, none⟩ = some (.int .i64 ys) := by rw [Lib.cell_of_heap hY]; rfl
      have d2 : w8.cell? ⟨w6.heap.size, 2, none⟩ = some (.int .i64 ye) := by rw [Lib.cell_of_heap hY]; rfl
      have d3 : w8.cell? ⟨w6.heap.size, 3, none⟩ = some (.int .i64 yv) := by rw [Lib.cell_of_heap hY]; rfl
      have d4 : w8.cell? ⟨w6.heap.size, 4, none⟩ = some (.int .i64 yf) := by rw [Lib.cell_of_heap hY]; rfl
      have d5 : w8.cell? ⟨w6.heap.size, 5, none⟩ = some (.int .i64 yl) := by rw [Lib.cell_of_heap hY]; rfl
      have d6 : w8.cell? ⟨w6.heap.size, 6, none⟩ = some (.slice B yes.length b) := by rw [Lib.cell_of_heap hY]; rfl
      have d7 : w8.cell? ⟨w6.heap.size, 7, none⟩ = some (.slice B' yfd.length b') := by rw [Lib.cell_of_heap hY]; rfl
      clear hb8 GC hY
      go_wp2_with fail
      refine (GC2.out).mono ?_
      rintro e w9 ⟨rfl, hb9⟩
      have HB9 := Lib.hid (HB8.out.trans (hb9.mono HB8.out.size))
      clear hb9
      go_wp2_with fail
      refine (HW.out _ HB9.out).mono ?_
      rintro e w10 ⟨rfl, hb10⟩
      have HB10 := Lib.hid (HB9.out.trans (hb10.mono HB9.out.size))
      clear hb10
      go_wp2_with fail
      go_ret
      exact ⟨rfl, HB10.out⟩
end Go.Proofs.YtcbeommmacnkgaaDoor.recordsBackW

