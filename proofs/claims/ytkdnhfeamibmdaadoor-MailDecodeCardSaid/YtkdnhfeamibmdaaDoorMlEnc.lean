/-
  Encode of package mail.
-/
import Derived.Test.YtkdnhfeamibmdaaDoorMlNumb
import Derived.Test.YtkdnhfeamibmdaaDoorRcEnc
namespace Go.Proofs.YtkdnhfeamibmdaaDoor
open Go.RowKit
def Ml.encR (n : Int) (m : Ml) : Value := if m.may n then .tuple #[.string ⟨m.enc.toArray⟩, .int .i64 0] else .tuple #[.string ⟨#[]⟩, .int .i64 2]
theorem OwnI.kept {b : Nat} {w w' : World} {base : Nat} {v : Value} {ns : List Int} (h : OwnI w base v ns) (hk : BKept b w w') (hb : ¬ v.ownBlock = some b) : OwnI w' base v ns := by
  refine ⟨h.1, ?_⟩
  rcases h.2 with h' | ⟨g, cap, cur, rfl, h1, hg, rest⟩
  · exact .inl h'
  · exact .inr ⟨g, cap, cur, rfl, h1, hk.at_ hg (fun e => hb (by rw [← e]; rfl)) (by decide), rest⟩
set_option maxRecDepth 100000 in
set_option maxHeartbeats 4000000 in
theorem mlEncode_any (m : Ml) (n : Int) (A : Option Addr) (c : Nat) {w : World} (hA : AskM w) (hE : EsB w.heap.size w (.slice A m.es.length c) m.es) (hn : m.es.length ≤ 100000) :
    Calls Tryd.prog 16 #[m.v (.slice A m.es.length c), .int .i64 n] w (NumPost (m.encR n) w) := by
  obtain ⟨w0, HW0⟩ : ∃ w0, Hid (w.alloc (.cells (m.cells (.slice A m.es.length c)).toArray 45) = w0) := ⟨_, Lib.hid rfl⟩
  have hb0 : Below w.heap.size w w0 := by rw [← HW0.out]; exact (Below.refl _ _).alloc (Nat.le_refl _) _
  have X0 : MlBox w0 w.heap.size m (.slice A m.es.length c) := by rw [← HW0.out]; exact MlBox.new _ _ _
  have hs0 : w0.heap.size = w.heap.size + 1 := by rw [← HW0.out]; simp
  have HB0 := Lib.hid hb0
  have HX0 := Lib.hid X0
  have G := Lib.hid (mlCheck_any m n A c (hA.keep hb0) (EsB.eq_1 .. ▸ RdB.below hE hb0 (Nat.le_refl _)) hb0.size hn)
  have hd0 := X0.load
  have HEE := Lib.hid hE
  clear hA hE hb0 X0
  rcases hmay : m.may n with _ | _
  · have HR : Hid (m.encR n = .tuple #[.string ⟨#[]⟩, .int .i64 2]) := by show _ = _; unfold Ml.encR; rw [hmay]; rfl
    rw [show m.err n = 2 by unfold Ml.err; rw [hmay]; rfl] at G
    simp only [Ml.v] at *
    clear hmay HEE
    generalize m.encR n = R at *
    go_enter Tryd.func16, Tryd.ntmps16
    go_wp2_with (first | rw [HW0.out] | (refine wpList_load_run rfl 45 _ rfl ⟨w.heap.size, 0, none⟩ rfl hd0 ?_))
    refine (G.out).mono ?_
    rintro e w1 ⟨rfl, hb1⟩
    go_wp2_with fail
    go_ret2
    exact ⟨by rw [HR.out]; rfl, HB0.out.trans (hb1.mono HB0.out.size)⟩
  · have HR : Hid (m.encR n = .tuple #[.string ⟨(markL m.l).toArray⟩, .int .i64 0]) := by show _ = _; unfold Ml.encR; rw [hmay]; rfl
    rw [show m.err n = 0 by unfold Ml.err; rw [hmay]; rfl] at G
    have HI := Lib.hid (Ml.ints_l (Ml.may_ints hmay) hn)
    have hes := Ml.may_es hmay
    have hll := Ml.l_len m
    have hL402 : m.l.length ≤ 402 := by omega
    have HML := Lib.hid (fun k => Nat.le_trans (markL_take_le m.l k) (markL_len HI.out).2)
    have HNB := Lib.hid (fun (X : World) (hX : Below w.heap.size w X) => numbersOf_any m A c (w := X) (RdB.mono (RdB.below HEE.out hX (Nat.le_refl _)) hX.size) hn)
    simp only [Ml.v] at *
    clear hmay hes hll HEE
    generalize m.encR n = R at *
    go_enter Tryd.func16, Tryd.ntmps16
    go_wp2_with (first | rw [HW0.out] | (refine wpList_load_run rfl 45 _ rfl ⟨w.heap.size, 0, none⟩ rfl hd0 ?_))
    refine (G.out).mono ?_
    rintro e w1 ⟨rfl, hb1⟩
    have HB1 := Lib.hid (HB0.out.trans (hb1.mono HB0.out.size))
    have HX1 := Lib.hid (HX0.out.bel hb1 (by omega))
    have hs1 : w.heap.size < w1.heap.size := by have := hb1.size; omega
    clear hb1 G
    obtain ⟨w2, HW2⟩ : ∃ w2, Hid (w1.alloc (.cells #[.pointer none, .slice none 0 0] 56) = w2) := ⟨_, Lib.hid rfl⟩
    have hb2 : Below w1.heap.size w1 w2 := by rw [← HW2.out]; exact (Below.refl _ _).alloc (Nat.le_refl _) _
    have bl2 : Bld w.heap.size w1.heap.size [] w2 := by rw [← HW2.out]; exact bld_made _ (by omega)
    have HBL2 := Lib.hid bl2
    have HB2 := Lib.hid (HB1.out.trans (hb2.mono (by omega)))
    have hd2 := (HX1.out.bel hb2 hs1).load
    have hs2 : w1.heap.size < w2.heap.size := by rw [← HW2.out]; simp
    simp only [Ml.v] at hd2
    clear hb2 bl2 hd0
    go_wp2_with (first | rw [HW2.out] | (refine wpList_load_run rfl 45 _ rfl ⟨w.heap.size, 0, none⟩ rfl hd2 ?_))
    refine (HNB.out _ HB2.out).mono ?_
    rintro e w3 ⟨A3, c3, rfl, hown, hb3⟩
    have HB3 := Lib.hid (HB2.out.trans (hb3.mono HB2.out.size))
    have HBL3 := Lib.hid (HBL2.out.later hb3)
    have HNE : Hid (¬ (Value.slice A3 m.l.length c3).ownBlock = some w1.heap.size) := fun e => by have := (hown.lt e).1; omega
    have HOW := Lib.hid hown
    have hs3 : w1.heap.size < w3.heap.size := by have := hb3.size; omega
    obtain ⟨_, _, hv, k1, k2, -⟩ := hown.is_slice
    injection hv with e1 e2 e3
    subst e1 e3
    clear e2 hown hb3 HNB HBL2 hd2
    unfold maxLen at k2
    go_wp2_with fail
    go_loopw [19] (fun i wr => ∃ k : Nat, k ≤ m.l.length ∧ i = .int .i64 k ∧ Bld w.heap.size w1.heap.size (markL (m.l.take k)) wr ∧ Below w.heap.size w3 wr ∧ BKept w1.heap.size w3 wr) (fun i _ => m.l.length - (intOf i).toNat)
    case atStart => exact ⟨0, Nat.zero_le _, rfl, by simpa [markL] using HBL3.out, Below.refl _ _, BKept.refl _ _⟩
    case round =>
      obtain ⟨k, hk, rfl, hbl, hbel, hkp⟩ := hrel
      have hszr := hbel.size
      by_cases hlt : k < m.l.length
      · have hor := HOW.out.kept hkp HNE.out
        obtain ⟨g, rfl, -, -, -, hcs⟩ := hor.cells (by omega)
        have hc := hcs k hlt
        have hii : (k : Int) < (m.l.length : Int) := by omega
        have hb := HI.out m.l[k] (List.getElem_mem hlt)
        have HT := Lib.hid (markL_take hlt)
        have hml := HML.out k
        obtain ⟨S, hS, lS⟩ := mark_name hb.1 hb.2
        have G1 : Hid (∀ X, Calls Tryd.prog 26 #[.int .i64 m.l[k]] X (StrPost S X)) := fun X => (put_any m.l[k] X hb.1 hb.2).mono fun e w' h => by rw [hS.out]; exact h
        have HS : Hid (S.data.toList = mark m.l[k]) := by show _ = _; rw [hS.out]
        obtain ⟨x, hx⟩ : ∃ x, m.l[k] = x := ⟨_, rfl⟩
        rw [hx] at hc HT G1 HS
        have HBL := Lib.hid hbl
        have HBE := Lib.hid hbel
        have HKP := Lib.hid hkp
        clear hbl hbel hkp hS hb hx hcs hor
        go_wp2_with fail
        refine (G1.out _).mono ?_
        rintro e w4 ⟨rfl, hb4⟩
        have hsz := hb4.size
        have HB4 := Lib.hid (HBL.out.later hb4)
        have HK4 := Lib.hid (HKP.out.trans (BKept.below hb4))
        have HE4 := Lib.hid (HBE.out.trans (hb4.mono (by omega)))
        clear hb4 hc
        go_wp2_with fail
        refine (writeString_any w.heap.size w1.heap.size _ S w4 HB4.out (by omega) (by omega)).mono ?_
        rintro e w5 ⟨rfl, hb5, he5, hk5⟩
        have HB5 := Lib.hid hb5
        have HE5 := Lib.hid (HE4.out.trans he5)
        have HK5 := Lib.hid (HK4.out.trans hk5)
        clear hb5 he5 hk5
        go_wp2_with fail
        go_roundw
        case rel => exact ⟨k + 1, by omega, by go_num, by rw [HT.out, ← HS.out]; exact HB5.out, HE5.out, HK5.out⟩
        case measure => simp [intOf]; omega
      · have HX : Hid (markL (m.l.take k) = markL m.l) := by show _ = _; rw [List.take_of_length_le (by omega)]
        rw [HX.out] at hbl
        have G4 := Lib.hid (string_any _ _ _ _ hbl (by omega))
        have HBE := Lib.hid (HB3.out.trans hbel)
        clear hbl hbel hkp
        go_wp2_with fail
        refine (G4.out).mono ?_
        rintro e w4 ⟨rfl, bl4, be4, bk4⟩
        have HBF := Lib.hid (HBE.out.trans be4)
        clear bl4 be4 bk4
        go_wp2_with fail
        go_ret2
        exact ⟨by rw [HR.out]; rfl, HBF.out⟩
end Go.Proofs.YtkdnhfeamibmdaaDoor
