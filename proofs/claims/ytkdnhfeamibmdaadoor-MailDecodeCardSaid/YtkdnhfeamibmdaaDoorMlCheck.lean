/-
  Check of package mail.
-/
import Derived.Test.YtkdnhfeamibmdaaDoorMlSite
import Derived.Test.YtkdnhfeamibmdaaDoorMlAsk
import Derived.Test.YtkdnhfeamibmdaaDoorMlEnts
namespace Go.Proofs.YtkdnhfeamibmdaaDoor
open Go.RowKit
theorem load_ord {w : World} {b : Nat} {m : Ml} {v : Value} (h : MlBox w b m v) : (w.cell? ⟨b, 10, none⟩ = some (.int .i64 m.o.id) ∧ w.cell? ⟨b, 11, none⟩ = some (.int .i64 m.o.st) ∧ w.cell? ⟨b, 12, none⟩ = some (.int .i64 m.o.ex) ∧ w.cell? ⟨b, 13, none⟩ = some (.int .i64 m.o.ki) ∧ w.cell? ⟨b, 14, none⟩ = some (.int .i64 m.o.ar)) ∧
    (w.cell? ⟨b, 15, none⟩ = some (.int .i64 m.ai) ∧ w.cell? ⟨b, 16, none⟩ = some (.int .i64 m.ac) ∧ w.cell? ⟨b, 17, none⟩ = some (.int .i64 m.av)) ∧ (w.cell? ⟨b, 1, none⟩ = some (.int .i64 m.fr) ∧ w.cell? ⟨b, 2, none⟩ = some (.int .i64 m.tt)) :=
  ⟨⟨h.cell 10, h.cell 11, h.cell 12, h.cell 13, h.cell 14⟩, ⟨h.cell 15, h.cell 16, h.cell 17⟩, h.cell 1, h.cell 2⟩
set_option maxRecDepth 100000 in
set_option maxHeartbeats 8000000 in
theorem mlCheck_any (m : Ml) (n : Int) (A : Option Addr) (c : Nat) {B : Nat} {w : World} (hA : AskM w) (hE : EsB B w (.slice A m.es.length c) m.es) (hB : B ≤ w.heap.size) (hn : m.es.length ≤ 100000) :
    Calls Tryd.prog 18 #[m.v (.slice A m.es.length c), .int .i64 n] w (NumPost (.int .i64 (m.err n)) w) := by
  have HR := Lib.hid (show m.err n = if m.may n then 0 else 2 from rfl)
  have HM : Hid (m.may n = ((decide (1 ≤ m.ki ∧ m.ki ≤ 10) && (isSite m.fr n && isSite m.tt n)) &&
    (numsA (bitsK m.ki m.ep) m.st m.ep m.vi m.ba m.le m.sp && (entsA (bitsK m.ki m.ep) m.st m.ep m.ba m.le m.es && (ordA (bitsK m.ki m.ep) m.o && ansA (bitsK m.ki m.ep) m.ai m.ac m.av))))) := rfl
  have hfb := fb_all (bitsK_cases m.ki m.ep)
  have G1 := Lib.hid (fun X (hX : Below w.heap.size w X) => fieldsOf2_any m A c X (hA.keep hX))
  have G2 := Lib.hid (fun X => isSite_any m.fr n X)
  have G3 := Lib.hid (fun X => isSite_any m.tt n X)
  have G4 := Lib.hid (fun X (hX : Below w.heap.size w X) => allowNumbers_any _ hfb m A c X (hA.keep hX))
  have G5 := Lib.hid (fun X (hX : Below w.heap.size w X) => allowEntries_any _ hfb m A c (hA.keep hX) (EsB.eq_1 .. ▸ RdB.below hE hX hB) (Nat.le_trans hB hX.size) hn)
  have G6 := Lib.hid (fun X (hX : Below w.heap.size w X) => allowOrder_any _ hfb m.o X (hA.keep hX))
  have G7 := Lib.hid (fun X => allowAnswer_any _ hfb m.ai m.ac m.av X)
  obtain ⟨w0, HW0⟩ : ∃ w0, Hid (w.alloc (.cells (m.cells (.slice A m.es.length c)).toArray 45) = w0) := ⟨_, Lib.hid rfl⟩
  have hb0 : Below w.heap.size w w0 := by rw [← HW0.out]; exact (Below.refl _ _).alloc (Nat.le_refl _) _
  have HX0 : Hid (MlBox w0 w.heap.size m (.slice A m.es.length c)) := by show MlBox _ _ _ _; rw [← HW0.out]; exact MlBox.new _ _ _
  have hs0 : w0.heap.size = w.heap.size + 1 := by rw [← HW0.out]; simp
  have HLD := Lib.hid (fun X (hX : Below w0.heap.size w0 X) => (HX0.out.bel hX (by omega)).load)
  have HCE := Lib.hid (fun X (hX : Below w0.heap.size w0 X) => load_ord (HX0.out.bel hX (by omega)))
  have HB0 := Lib.hid hb0
  have hd0 := HLD.out w0 (Below.refl _ _)
  clear hb0 hA hE
  simp only [Ml.v] at *
  generalize m.err n = er at *
  generalize m.may n = my at *
  generalize bitsK m.ki m.ep = f at *
  generalize numsA f m.st m.ep m.vi m.ba m.le m.sp = bN at *
  generalize entsA f m.st m.ep m.ba m.le m.es = bE at *
  generalize ordA f m.o = bO at *
  generalize ansA f m.ai m.ac m.av = bA at *
  generalize isSite m.fr n = s1 at *
  generalize isSite m.tt n = s2 at *
  go_enter Tryd.func18, Tryd.ntmps18
  go_wp2_with (first | rw [HW0.out] | (refine wpList_load_run rfl 45 _ rfl ⟨w.heap.size, 0, none⟩ rfl hd0 ?_))
  by_cases hk : 1 ≤ m.ki ∧ m.ki ≤ 10
  rotate_left
  · have hd : decide (1 ≤ m.ki ∧ m.ki ≤ 10) = false := decide_eq_false hk
    rw [hd] at HM G1
    rw [if_neg hk] at G1
    obtain rfl : my = false := HM.out
    obtain rfl : er = 2 := HR.out
    refine (G1.out _ HB0.out).mono ?_
    rintro e w1 ⟨rfl, hb1⟩
    go_wp2_with fail
    go_ret
    exact ⟨rfl, HB0.out.trans (hb1.mono HB0.out.size)⟩
  have hd : decide (1 ≤ m.ki ∧ m.ki ≤ 10) = true := decide_eq_true hk
  rw [hd] at HM G1
  rw [if_pos hk] at G1
  clear hk hd hd0 hfb hB
  refine (G1.out _ HB0.out).mono ?_
  rintro e w1 ⟨rfl, hb1⟩
  have HB1 := Lib.hid hb1
  have HBW1 := Lib.hid (HB0.out.trans (hb1.mono HB0.out.size))
  obtain ⟨⟨q0, q1, q2, q3, q4⟩, ⟨q5, q6, q7⟩, q8, q9⟩ := HCE.out w1 hb1
  clear hb1 q0 q1 q2 q3 q4 q5 q6 q7
  go_wp2_with fail
  refine (G2.out _).mono ?_
  rintro e wx ⟨rfl, rfl⟩
  cases s1
  · obtain rfl : my = false := HM.out.trans (by simp)
    obtain rfl : er = 2 := HR.out
    go_wp2_with fail
    go_ret
    exact ⟨rfl, HBW1.out⟩
  go_wp2_with fail
  refine (G3.out _).mono ?_
  rintro e wx ⟨rfl, rfl⟩
  cases s2
  · obtain rfl : my = false := HM.out.trans (by simp)
    obtain rfl : er = 2 := HR.out
    go_wp2_with fail
    go_ret
    exact ⟨rfl, HBW1.out⟩
  clear q8 q9
  have hd1 := HLD.out w1 HB1.out
  go_wp2_with (refine wpList_load_run rfl 45 _ rfl ⟨w.heap.size, 0, none⟩ rfl hd1 ?_)
  refine (G4.out _ HBW1.out).mono ?_
  rintro e w2 ⟨rfl, hb2⟩
  have HB2 := Lib.hid (HB1.out.trans (hb2.mono HB1.out.size))
  have HBW2 := Lib.hid (HBW1.out.trans (hb2.mono HBW1.out.size))
  clear hb2 hd1
  cases bN
  · obtain rfl : my = false := HM.out.trans (by simp)
    obtain rfl : er = 2 := HR.out
    go_wp2_with fail
    go_ret
    exact ⟨rfl, HBW2.out⟩
  have hd2 := HLD.out w2 HB2.out
  go_wp2_with (refine wpList_load_want (by kernel_rfl) 45 _ rfl ⟨w.heap.size, 0, none⟩ rfl hd2 ?_)
  refine (G5.out _ HBW2.out).mono ?_
  rintro e w3 ⟨rfl, hb3⟩
  have HB3 := Lib.hid (HB2.out.trans (hb3.mono HB2.out.size))
  have HBW3 := Lib.hid (HBW2.out.trans (hb3.mono HBW2.out.size))
  clear hb3 hd2
  cases bE
  · obtain rfl : my = false := HM.out.trans (by simp)
    obtain rfl : er = 2 := HR.out
    go_wp2_with fail
    go_ret
    exact ⟨rfl, HBW3.out⟩
  obtain ⟨⟨q0, q1, q2, q3, q4⟩, -, -⟩ := HCE.out w3 HB3.out
  unfold Od.v at *
  go_wp2_with fail
  refine (G6.out _ HBW3.out).mono ?_
  rintro e w4 ⟨rfl, hb4⟩
  have HB4 := Lib.hid (HB3.out.trans (hb4.mono HB3.out.size))
  have HBW4 := Lib.hid (HBW3.out.trans (hb4.mono HBW3.out.size))
  clear hb4 q0 q1 q2 q3 q4
  cases bO
  · obtain rfl : my = false := HM.out.trans (by simp)
    obtain rfl : er = 2 := HR.out
    go_wp2_with fail
    go_ret
    exact ⟨rfl, HBW4.out⟩
  obtain ⟨-, ⟨q5, q6, q7⟩, -⟩ := HCE.out w4 HB4.out
  go_wp2_with fail
  refine (G7.out _).mono ?_
  rintro e w5 ⟨rfl, hb5⟩
  have HBW5 := Lib.hid (HBW4.out.trans (hb5.mono HBW4.out.size))
  clear hb5 q5 q6 q7
  cases bA
  · obtain rfl : my = false := HM.out.trans (by simp)
    obtain rfl : er = 2 := HR.out
    go_wp2_with fail
    go_ret
    exact ⟨rfl, HBW5.out⟩
  · obtain rfl : my = true := HM.out.trans (by simp)
    obtain rfl : er = 0 := HR.out
    go_wp2_with fail
    go_ret
    exact ⟨rfl, HBW5.out⟩
end Go.Proofs.YtkdnhfeamibmdaaDoor
