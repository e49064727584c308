/-
  The walk of the law FoldsPrefix: it returns true and writes nothing that was there.
-/
import Derived.Test.YtafhjlfnhgkcoaaDoorFoCtr
namespace Go.Proofs.YtafhjlfnhgkcoaaDoor.foldsPrefixW
open Go.RowKit Go.Sort Go.Maps
set_option maxRecDepth 100000 in
set_option maxHeartbeats 1000000 in
theorem walk_off (A : Option Addr) (n c : Nat) (cut : Int) (w : World) (HW : Hid (∀ X : World, Below w.heap.size w X → Calls Tryd.prog 15 #[] X (NumPost (.bool true) X))) (h : 300 < n ∨ cut < 0 ∨ (n : Int) < cut) :
    Calls Tryd.prog 5 #[.slice A n c, .int .i64 cut] w (fun e w' => e = .returned (.bool true) ∧ Below w.heap.size w w') := by
  by_cases h1 : 300 < n
  · have t1 : decide (300 < (n : Int)) = true := decide_eq_true (by omega)
    have t2 : (300 : Int) < (n : Int) := by omega
    clear h
    go_enter Tryd.func5, Tryd.ntmps5
    go_wp2_with fail
    refine (HW.out _ (Below.refl _ _)).mono ?_
    rintro e w2 ⟨rfl, hb⟩
    go_wp2_with fail
    go_ret
    exact ⟨rfl, hb⟩
  · have t1 : decide (300 < (n : Int)) = false := decide_eq_false (by omega)
    have t2 : ¬ (300 : Int) < (n : Int) := by omega
    by_cases h2 : cut < 0
    · have t3 : decide (cut < 0) = true := decide_eq_true h2
      clear h
      go_enter Tryd.func5, Tryd.ntmps5
      go_wp2_with fail
      refine (HW.out _ (Below.refl _ _)).mono ?_
      rintro e w2 ⟨rfl, hb⟩
      go_wp2_with fail
      go_ret
      exact ⟨rfl, hb⟩
    · have t3 : decide (cut < 0) = false := decide_eq_false h2
      have t4 : decide ((n : Int) < cut) = true := decide_eq_true (by omega)
      have t5 : (n : Int) < cut := by omega
      clear h
      go_enter Tryd.func5, Tryd.ntmps5
      go_wp2_with fail
      refine (HW.out _ (Below.refl _ _)).mono ?_
      rintro e w2 ⟨rfl, hb⟩
      go_wp2_with fail
      go_ret
      exact ⟨rfl, hb⟩
set_option maxRecDepth 100000 in
set_option maxHeartbeats 4000000 in
theorem walk (A : Option Addr) (c : Nat) (es : List En) (cut : Int) (w : World) (hA : Asked w) (ha : EsB w.heap.size w (.slice A es.length c) es) (hi : ∀ e ∈ es, IntsOk e.l) (_ : (Lit.int .i64 cut).wf) : Calls Tryd.prog 5 #[.slice A es.length c, .int .i64 cut] w (fun e w' => e = .returned (.bool true) ∧ Below w.heap.size w w') := by
  have HA := Lib.hid hA
  have HW := Lib.hid (fun X hX => foWorks_any X (HA.out.keep hX))
  by_cases hn : 300 < es.length ∨ cut < 0 ∨ (es.length : Int) < cut
  · exact walk_off A es.length c cut w HW hn
  · obtain ⟨k, rfl⟩ : ∃ k : Nat, cut = (k : Int) := ⟨cut.toNat, by omega⟩
    have hk : k ≤ es.length := by omega
    have t1 : decide (300 < (es.length : Int)) = false := decide_eq_false (by omega)
    have t2 : ¬ (300 : Int) < (es.length : Int) := by omega
    have t3 : decide ((k : Int) < 0) = false := decide_eq_false (by omega)
    have t4 : decide ((es.length : Int) < (k : Int)) = false := decide_eq_false (by omega)
    have t5 : ¬ (es.length : Int) < (k : Int) := by omega
    have h3 : es.length ≤ 300 := by omega
    clear hn
    have H1 := Lib.hid (ofp_any ha hi (Nat.le_refl _) hA (by omega))
    have H2 := Lib.hid (fun X (hX : Below w.heap.size w X) => by
      have h := ofp_any (w := X) (EsB.take (RdB.below ha hX (Nat.le_refl _) : EsB _ X _ es) hk) (take_ints hi k) hX.size (HA.out.keep hX) (by simp; omega)
      unfold OfP at h
      rw [foldL_take hk, List.length_take, Nat.min_eq_left hk] at h
      exact h)
    have hpre := Lib.hid (upTo_prefix (l := es) hk (Nat.le_refl _))
    obtain ⟨_, _, hv, hl1, hl2, hl3⟩ := ha.len
    injection hv with e1 _ e3
    subst e1 e3
    have hkc : k ≤ c := by omega
    unfold maxLen at hl2
    clear ha hA hi HA
    go_enter Tryd.func5, Tryd.ntmps5
    go_wp2_with fail
    refine (H1.out).mono ?_
    rintro e w1 ⟨g, rfl, hoc, hg1, hg2, hb1⟩
    simp only [St.v]
    obtain ⟨w2, HX2⟩ : ∃ W : World, Hid (W = w1.alloc (.cells #[.int .i64 (foldL es).1.tag, .bool (foldL es).1.cl, .int .i64 (foldL es).1.sum, .int .i64 (foldL es).1.ver] 25)) := ⟨_, Lib.hid rfl⟩
    have hb2 : Below w1.heap.size w1 w2 := by rw [HX2.out]; exact (Below.refl _ _).alloc (Nat.le_refl _) _
    have hB2 := hb1.trans (hb2.mono hb1.size)
    have HO := Lib.hid (hoc.below hb2 (Nat.le_refl _))
    have hz2 := hb2.size
    clear hoc
    generalize (foldL es).1.tag = q1 at *
    generalize (foldL es).1.cl = q2 at *
    generalize (foldL es).1.sum = q3 at *
    generalize (foldL es).1.ver = q4 at *
    go_wp2_with (rw [← HX2.out])
    refine (H2.out _ hB2).mono ?_
    rintro e w3 ⟨g', rfl, hoc', hg1', hg2', hb3⟩
    simp only [St.v]
    obtain ⟨w4, HX4⟩ : ∃ W : World, Hid (W = w3.alloc (.cells #[.int .i64 (upTo es k).1.tag, .bool (upTo es k).1.cl, .int .i64 (upTo es k).1.sum, .int .i64 (upTo es k).1.ver] 25)) := ⟨_, Lib.hid rfl⟩
    have hb4 : Below w3.heap.size w3 w4 := by rw [HX4.out]; exact (Below.refl _ _).alloc (Nat.le_refl _) _
    have hB4 := hb3.trans (hb4.mono hb3.size)
    have ho4 := (HO.out.below hB4 hz2).take (i := k) (by rw [foldL_len]; exact hk)
    rw [show (foldL es).2.take k = (upTo es k).2 from hpre.out] at ho4
    have hz4 := hb4.size
    have HS := Lib.hid (sameOcs_any (hoc'.below hb4 (Nat.le_refl _)) ho4 hz4 (Nat.le_trans hz2 hB4.size))
    clear hoc' ho4 HO
    generalize (upTo es k).1.tag = p1 at *
    generalize (upTo es k).1.cl = p2 at *
    generalize (upTo es k).1.sum = p3 at *
    generalize (upTo es k).1.ver = p4 at *
    go_wp2_with (rw [← HX4.out])
    refine (HS.out).mono ?_
    rintro e w5 ⟨rfl, hb5⟩
    have hB5 := hB2.trans ((hB4.trans (hb5.mono hB4.size)).mono hB2.size)
    go_wp2_with fail
    refine (HW.out _ hB5).mono ?_
    rintro e w6 ⟨rfl, hb6⟩
    go_wp2_with fail
    go_ret
    exact ⟨rfl, hB5.trans (hb6.mono hB5.size)⟩
end Go.Proofs.YtafhjlfnhgkcoaaDoor.foldsPrefixW
