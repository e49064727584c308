/-
  Encode of package records.
-/
import Derived.Test.YtkdnhfeamibmdaaDoorRcCheck
import Derived.Test.YtkdnhfeamibmdaaDoorRcPutAll
import Derived.Laws.EntriesVeiled
namespace Go.Proofs.YtkdnhfeamibmdaaDoor
open Go.RowKit
def Rec.encR (r : Rec) : Value := if r.may then .tuple #[.string ⟨r.enc.toArray⟩, .int .i64 0] else .tuple #[.string ⟨#[]⟩, .int .i64 2]
theorem Rec.enc_parts (r : Rec) : r.enc = markL [r.ki, r.st, r.ep, r.vi, r.fr, r.le] ++ (markL (esL r.es) ++ markL (fdL r.fd)) := by
  simp only [Rec.enc, Rec.l, markL_append, Rec.hd]
set_option maxRecDepth 100000 in
set_option maxHeartbeats 4000000 in
theorem recEncode_any (r : Rec) {ve vf : Value} {w : World} (hA : AskR w) (hE : EsB w.heap.size w ve r.es) (hF : FdB w.heap.size w vf r.fd) (hn : r.es.length ≤ 100000) (hm : r.fd.length ≤ 100000) :
    Calls Tryd.prog 8 #[r.v ve vf] w (NumPost r.encR w) := by
  have hb0 : Below w.heap.size w (w.alloc (.cells #[.int .i64 r.ki, .int .i64 r.st, .int .i64 r.ep, .int .i64 r.vi, .int .i64 r.fr, .int .i64 r.le, ve, vf] 25)) := (Below.refl _ _).alloc (Nat.le_refl _) _
  have B0 : (w.alloc (.cells #[.int .i64 r.ki, .int .i64 r.st, .int .i64 r.ep, .int .i64 r.vi, .int .i64 r.fr, .int .i64 r.le, ve, vf] 25)).heap[w.heap.size]? = some (.cells #[.int .i64 r.ki, .int .i64 r.st, .int .i64 r.ep, .int .i64 r.vi, .int .i64 r.fr, .int .i64 r.le, ve, vf] 25 (0, 0)) := heap_alloc_new _ _
  have hG := recCheck_any r (hA.keep hb0) (EsB.eq_1 .. ▸ (hE.below hb0 (Nat.le_refl _)).mono hb0.size) (FdB.eq_1 .. ▸ (hF.below hb0 (Nat.le_refl _)).mono hb0.size) hn hm
  rcases hmay : r.may with _ | _
  · have HR : Hid (r.encR = .tuple #[.string ⟨#[]⟩, .int .i64 2]) := by show _ = _; unfold Rec.encR; rw [hmay]; rfl
    rw [show r.err = 2 by unfold Rec.err; rw [hmay]; rfl] at hG
    have G := Lib.hid hG
    have HB0 := Lib.hid hb0
    clear hG hA hb0 hmay
    obtain ⟨A, c, rfl, -, -, -⟩ := hE.len
    obtain ⟨A', c', rfl, -, -, -⟩ := hF.len
    clear hE hF B0
    generalize r.encR = R at *
    generalize r.es.length = ne at *
    generalize r.fd.length = nf at *
    obtain ⟨ki, st, ep, vi, fr, le, es, fd⟩ := r
    dsimp only [Rec.v] at *
    go_enter Tryd.func8, Tryd.ntmps8
    go_wp2_with fail
    refine (G.out).mono ?_
    rintro e w1 ⟨rfl, hb1⟩
    go_wp2_with fail
    go_ret2
    exact ⟨by rw [HR.out]; rfl, HB0.out.trans (hb1.mono HB0.out.size)⟩
  · have HR : Hid (r.encR = .tuple #[.string ⟨r.enc.toArray⟩, .int .i64 0]) := by show _ = _; unfold Rec.encR; rw [hmay]; rfl
    rw [show r.err = 0 by unfold Rec.err; rw [hmay]; rfl] at hG
    have HP := Lib.hid (Rec.enc_parts r)
    have hbd := Rec.bd hmay
    have hii := Rec.may_ints hmay
    have HIH := Lib.hid hii.1
    have HLH := Lib.hid (markL_len hii.1).2
    have HLE := Lib.hid (esL_bd hii.2.1 (by omega) r.es.length)
    rw [List.take_length] at HLE
    have HIE := Lib.hid hii.2.1
    have HIF := Lib.hid hii.2.2
    have HNE := Lib.hid hbd
    have G := Lib.hid hG
    have HB0 := Lib.hid hb0
    have HX0 := Lib.hid B0
    have HE0 := Lib.hid hE
    have HF0 := Lib.hid hF
    clear hG hA hb0 hmay hbd hii B0
    obtain ⟨A, c, rfl, -, -, -⟩ := hE.len
    obtain ⟨A', c', rfl, -, -, -⟩ := hF.len
    clear hE hF
    generalize r.encR = R at *
    generalize r.enc = L at *
    obtain ⟨ki, st, ep, vi, fr, le, es, fd⟩ := r
    dsimp only [Rec.v] at *
    go_enter Tryd.func8, Tryd.ntmps8
    go_wp2_with fail
    refine (G.out).mono ?_
    rintro e w1 ⟨rfl, hb1⟩
    have hs1 : w.heap.size < w1.heap.size := by have := hb1.size; simp at this; omega
    have HX1 := Lib.hid ((hb1.block w.heap.size (by simp)).trans HX0.out)
    have HB1 := Lib.hid (HB0.out.trans (hb1.mono HB0.out.size))
    clear hb1
    have c0 : w1.cell? ⟨w.heap.size, 0, none⟩ = some (.int .i64 ki) := by rw [Lib.cell_of_heap HX1.out]; rfl
    have c1 : w1.cell? ⟨w.heap.size, 1, none⟩ = some (.int .i64 st) := by rw [Lib.cell_of_heap HX1.out]; rfl
    have c2 : w1.cell? ⟨w.heap.size, 2, none⟩ = some (.int .i64 ep) := by rw [Lib.cell_of_heap HX1.out]; rfl
    have c3 : w1.cell? ⟨w.heap.size, 3, none⟩ = some (.int .i64 vi) := by rw [Lib.cell_of_heap HX1.out]; rfl
    have c4 : w1.cell? ⟨w.heap.size, 4, none⟩ = some (.int .i64 fr) := by rw [Lib.cell_of_heap HX1.out]; rfl
    have c5 : w1.cell? ⟨w.heap.size, 5, none⟩ = some (.int .i64 le) := by rw [Lib.cell_of_heap HX1.out]; rfl
    -- the builder, the closure's variable, the head's row
    obtain ⟨w2, HW2⟩ : ∃ w2, Hid (w2 = w1.alloc (.cells #[.pointer none, .slice none 0 0] 56)) := ⟨_, Lib.hid rfl⟩
    have hb2 : Below w1.heap.size w1 w2 := by rw [HW2.out]; exact (Below.refl _ _).alloc (Nat.le_refl _) _
    have hs2 : w2.heap.size = w1.heap.size + 1 := by rw [HW2.out]; simp
    have bl2 : Bld w.heap.size w1.heap.size [] w2 := by rw [HW2.out]; exact bld_made _ (by omega)
    obtain ⟨w3, HW3⟩ : ∃ w3, Hid (w3 = w2.alloc (.cells #[.func (.func 24) #[] #[.pointer (some ⟨w1.heap.size, 0, none⟩)]] 63)) := ⟨_, Lib.hid rfl⟩
    have hb3 : Below w2.heap.size w2 w3 := by rw [HW3.out]; exact (Below.refl _ _).alloc (Nat.le_refl _) _
    have hs3 : w3.heap.size = w1.heap.size + 2 := by rw [HW3.out]; simp; omega
    have pv3 : PutVar w3 (w1.heap.size + 1) w1.heap.size := by rw [HW3.out, ← hs2]; exact heap_alloc_new _ _
    obtain ⟨w4, HW4⟩ : ∃ w4, Hid (w4 = w3.alloc (.cells #[.int .i64 ki, .int .i64 st, .int .i64 ep, .int .i64 vi, .int .i64 fr, .int .i64 le] 3)) := ⟨_, Lib.hid rfl⟩
    have hb4 : Below w3.heap.size w3 w4 := by rw [HW4.out]; exact (Below.refl _ _).alloc (Nat.le_refl _) _
    have hr4 : IntRow w4 w3.heap.size [ki, st, ep, vi, fr, le] := by rw [HW4.out]; exact heap_alloc_new _ _
    have HB14 : Hid (Below w1.heap.size w1 w4) := hb2.trans ((hb3.mono (by omega)).trans (hb4.mono (by omega)))
    have G1 := Lib.hid (put_clo ((bl2.later hb3).later hb4) hr4 (by omega) HIH.out (by simp) (by simp) (by have := hb4.size; omega))
    have PV4 := Lib.hid (pv3.below hb4)
    rw [hs3] at G1
    have HB4 := Lib.hid (HB1.out.trans (HB14.out.mono (by omega)))
    have HX4 := Lib.hid ((HB14.out.block w.heap.size (by omega)).trans HX1.out)
    rw [HW4.out, HW3.out, HW2.out] at G1
    have hne : w1.heap.size + 1 ≠ w1.heap.size := by omega
    have HNE2 := Lib.hid hne
    have HS4 := Lib.hid (show w1.heap.size + 2 < w4.heap.size by have : w4.heap.size = w3.heap.size + 1 := by rw [HW4.out]; simp
                                                                 omega)
    clear hb2 hb3 hb4 bl2 pv3 hr4 hs3 hne
    go_wp2_with fail
    refine (G1.out).mono ?_
    rintro e w5 ⟨rfl, bl5, be5, bk5⟩
    rw [← HW2.out, ← HW3.out, ← HW4.out] at be5 bk5
    have HX5 := Lib.hid (bk5.at_ HX4.out (by omega) (by decide))
    have PV5 := Lib.hid (PV4.out.kept bk5 HNE2.out)
    have HB5 := Lib.hid (HB4.out.trans be5)
    have hs5 := be5.size
    have HS5 := Lib.hid (show w1.heap.size + 2 < w5.heap.size by have := HS4.out; omega)
    have G2 := Lib.hid (putAll_es (HE0.out.below HB5.out (Nat.le_refl _)) bl5 PV5.out HNE2.out HIE.out (by have := HNE.out; omega) (by have := HLH.out; simp [Rec.hd] at this ⊢; omega) (by have := HS5.out; omega))
    clear be5 bk5 c0 c1 c2 c3 c4 c5 bl5 hs5
    have c6 : w5.cell? ⟨w.heap.size, 6, none⟩ = some (.slice A es.length c) := by rw [Lib.cell_of_heap HX5.out]; rfl
    have p0 := PV5.out.cell
    go_wp2_with fail
    refine (G2.out).mono ?_
    rintro e w6 ⟨rfl, bl6, be6, bk6⟩
    have HX6 := Lib.hid (bk6.at_ HX5.out (by omega) (by decide))
    have PV6 := Lib.hid (PV5.out.kept bk6 HNE2.out)
    have HB6 := Lib.hid (HB5.out.trans be6)
    have hs6 := be6.size
    have HS6 := Lib.hid (show w1.heap.size + 2 < w6.heap.size by have := HS5.out; omega)
    have G3 := Lib.hid (putAll_fd (HF0.out.below HB6.out (Nat.le_refl _)) bl6 PV6.out HNE2.out HIF.out (by have := HNE.out; omega) (by have := HLH.out; have := HLE.out; simp [Rec.hd, esL] at *; omega) (by have := HS6.out; omega))
    clear be6 bk6 bl6 hs6 c6 p0
    have c7 : w6.cell? ⟨w.heap.size, 7, none⟩ = some (.slice A' fd.length c') := by rw [Lib.cell_of_heap HX6.out]; rfl
    have p0 := PV6.out.cell
    go_wp2_with fail
    refine (G3.out).mono ?_
    rintro e w7 ⟨rfl, bl7, be7, bk7⟩
    have HB7 := Lib.hid (HB6.out.trans be7)
    have hs7 := be7.size
    have G4 := Lib.hid (string_any _ _ _ _ bl7 (by have := HS6.out; omega))
    clear be7 bk7 bl7 c7 p0
    go_wp2_with fail
    refine (G4.out).mono ?_
    rintro e w8 ⟨rfl, bl8, be8, bk8⟩
    have HB8 := Lib.hid (HB7.out.trans be8)
    clear bl8 be8 bk8
    go_wp2_with fail
    go_ret2
    exact ⟨by rw [HR.out, HP.out]; rfl, HB8.out⟩
end Go.Proofs.YtkdnhfeamibmdaaDoor
