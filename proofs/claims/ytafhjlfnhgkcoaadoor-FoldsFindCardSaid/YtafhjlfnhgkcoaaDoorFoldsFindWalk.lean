/-
  The walk of the law FoldsFind: it returns true and writes nothing that was there.
-/
import Derived.Test.YtafhjlfnhgkcoaaDoorFoWorks
namespace Go.Proofs.YtafhjlfnhgkcoaaDoor.foldsFindW
open Go.RowKit Go.Sort Go.Maps
set_option maxRecDepth 100000 in
set_option maxHeartbeats 4000000 in
theorem walk (A : Option Addr) (c : Nat) (es : List En) (id : Int) (w : World) (hA : Asked w) (ha : EsB w.heap.size w (.slice A es.length c) es) (_ : ∀ e ∈ es, IntsOk e.l) (_ : (Lit.int .i64 id).wf) : Calls Tryd.prog 4 #[.slice A es.length c, .int .i64 id] w (fun e w' => e = .returned (.bool true) ∧ Below w.heap.size w w') := by
  by_cases hn : 2000 < es.length
  · have h1 : decide (2000 < (es.length : Int)) = true := decide_eq_true (by omega)
    have h2 : (2000 : Int) < (es.length : Int) := by omega
    clear ha hA
    go_enter Tryd.func4, Tryd.ntmps4
    go_wp2_with fail
    go_ret
    exact ⟨rfl, Below.refl _ _⟩
  · have h1 : decide (2000 < (es.length : Int)) = false := decide_eq_false (by omega)
    have h2 : ¬ (2000 : Int) < (es.length : Int) := by omega
    have HT := Lib.hid (twin_any ha (Nat.le_refl _) (by omega))
    have HA := Lib.hid hA
    have HL := Lib.hid (fun X (hX : Below w.heap.size w X) => (RdB.below ha hX (Nat.le_refl _) : EsB _ X _ es))
    have HW := Lib.hid (fun X hX => foWorks_any X (HA.out.keep hX))
    clear ha hA
    generalize hr : findR es id = r at *
    obtain ⟨rk, rb⟩ := r
    go_enter Tryd.func4, Tryd.ntmps4
    go_wp2_with fail
    refine (HT.out).mono ?_
    rintro e w1 ⟨g, ct, rfl, hg1, hg2, hc1, hc2, hE, h7, hb1⟩
    have HE := Lib.hid (fun X (hX : Below w1.heap.size w1 X) => (RdB.below hE hX (Nat.le_refl _) : EsB _ X _ es))
    have HF := Lib.hid (fun X (hX : Below w1.heap.size w1 X) => hr ▸ find_any (w := X) id (HE.out X hX) hX.size)
    have HR := Lib.hid (fun X (hX : Below w.heap.size w X) => hr ▸ rfind_any (w := X) id (HL.out X hX) hX.size)
    have HLF := Lib.hid (fun X (hX : Below w1.heap.size w1 X) => left_any (RdB.mono (HE.out X hX) hX.size) hc1 hc2 ((hX.cell (p := ⟨g, es.length * 6, none⟩) hg2).trans h7) (HL.out X (hb1.trans (hX.mono hb1.size))) (by omega))
    clear hE h7 HT HL
    go_wp2_with fail
    refine (HF.out _ (Below.refl _ _)).mono ?_
    rintro e w2 ⟨rfl, hb2⟩
    go_wp2_with fail
    refine (HR.out _ (hb1.trans (hb2.mono hb1.size))).mono ?_
    rintro e w3 ⟨rfl, hb3⟩
    have hB3 := hb2.trans (hb3.mono hb2.size)
    go_wp2_with fail
    refine (HLF.out _ hB3).mono ?_
    rintro e w4 ⟨rfl, hb4⟩
    have hB4 := hB3.trans (hb4.mono hB3.size)
    go_wp2_with fail
    refine (HW.out _ (hb1.trans (hB4.mono hb1.size))).mono ?_
    rintro e w5 ⟨rfl, hb5⟩
    go_wp2_with fail
    go_ret
    exact ⟨rfl, (hb1.trans (hB4.mono hb1.size)).trans (hb5.mono (hb1.trans (hB4.mono hb1.size)).size)⟩
end Go.Proofs.YtafhjlfnhgkcoaaDoor.foldsFindW
