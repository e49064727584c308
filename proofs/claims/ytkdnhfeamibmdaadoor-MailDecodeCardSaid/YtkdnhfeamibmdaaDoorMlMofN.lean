/-
  mailOf of package mail: numbers that are none of a message.
-/
import Derived.Test.YtkdnhfeamibmdaaDoorMlMofM
namespace Go.Proofs.YtkdnhfeamibmdaaDoor
open Go.RowKit
set_option maxRecDepth 100000 in
set_option maxHeartbeats 8000000 in
theorem mailOf_no {ns : List Int} {base : Nat} {A : Option Addr} {c : Nat} {w : World} (ho : OwnI w base (.slice A ns.length c) ns) (hbad : ¬ ∃ X : Nat, X ≤ 64 ∧ ns.length = 18 + 6 * X ∧ numAt ns 9 = (X : Int)) : Calls Tryd.prog 52 #[.slice A ns.length c] w (MofPost ns w) := by
  obtain ⟨w0, HW0⟩ : ∃ w0, Hid (w.alloc (.cells (ml0.cells (.slice none 0 0)).toArray 45) = w0) := ⟨_, Lib.hid rfl⟩
  have hb0 : Below w.heap.size w w0 := by rw [← HW0.out]; exact (Below.refl _ _).alloc (Nat.le_refl _) _
  have X0 : MlBox w0 w.heap.size ml0 (.slice none 0 0) := by rw [← HW0.out]; exact MlBox.new _ _ _
  have hs0 : w0.heap.size = w.heap.size + 1 := by rw [← HW0.out]; simp
  have HST := Lib.hid (X0.store (m := ml0) (A := none) (n := 0) (c := 0))
  have HB0 := Lib.hid hb0
  have HX0 := Lib.hid X0
  have hFail : ∀ (_ : ∀ m : Ml, m.l = ns → 64 < m.es.length), MofPost ns w (.returned (.tuple #[ml0.v (.slice none 0 0), .bool false])) (w0.setRow w.heap.size (ml0.cells (.slice none 0 0)).toArray) := fun h => ⟨below_setRow HB0.out (Nat.le_refl _) _, .inr ⟨h, rfl⟩⟩
  have HFAIL := Lib.hid hFail
  have HSQ := Lib.hid (fun q => (show MlBox (w0.drewN q) w.heap.size ml0 (.slice none 0 0) from X0).store (m := ml0) (A := none) (n := 0) (c := 0))
  have HFQ := Lib.hid (fun q (h : ∀ m : Ml, m.l = ns → 64 < m.es.length) => show MofPost ns w (.returned (.tuple #[ml0.v (.slice none 0 0), .bool false])) ((w0.drewN q).setRow w.heap.size (ml0.cells (.slice none 0 0)).toArray) from ⟨below_setRow (below_drewN HB0.out q) (Nat.le_refl _) _, .inr ⟨h, rfl⟩⟩)
  have HLEN := Lib.hid (fun (m : Ml) (h : m.l = ns) => show ns.length = 18 + m.es.length * 6 from h ▸ Ml.l_len m)
  have HN9 := Lib.hid (fun (m : Ml) (h : m.l = ns) => show numAt ns 9 = (m.es.length : Int) from h ▸ l_nine m)
  clear hFail hb0 X0
  obtain ⟨_, _, hv, h1, h2, -⟩ := ho.is_slice
  injection hv with e1 _ e3
  subst e1 e3
  unfold maxLen at h2
  have HOC : Hid (0 < ns.length → ∃ g, A = some ⟨g, 0, none⟩ ∧ g < w.heap.size ∧ ∀ j, j < ns.length → w.cell? ⟨g, j, none⟩ = some (.int .i64 (numAt ns j))) := fun h => by
    obtain ⟨g, q1, _, q2, _, q3⟩ := ho.cells h
    exact ⟨g, q1, q2, fun j hj => by rw [q3 j hj, numAt_eq hj]⟩
  clear ho
  generalize ns.length = L at *
  simp only [ml0, Ml.cells, Ml.v, Od.none] at HW0 HST HFAIL HSQ HFQ
  by_cases hlt : L < 18
  · have hii : (L : Int) < 18 := by omega
    have HF := Lib.hid (HFAIL.out fun m hm => by have := HLEN.out m hm; omega)
    clear HFAIL HLEN HN9 hlt HOC
    go_enter Tryd.func52, Tryd.ntmps52
    go_wp2_with (first | rw [HW0.out] | (refine wpList_store_known rfl 45 _ _ rfl ⟨w.heap.size, 0, none⟩ _ rfl rfl HST.out.1 ?_))
    (try simp only [Exit.inBlock, Exit.then]); refine bodyPost_ret (v := .tuple #[.agg #[.int .i64 0, .int .i64 0, .int .i64 0, .int .i64 0, .int .i64 0, .int .i64 0, .int .i64 0, .int .i64 0, .int .i64 0, .slice none 0 0, .int .i64 0, .int .i64 0, .int .i64 0, .int .i64 0, .int .i64 0, .int .i64 0, .int .i64 0, .int .i64 0], .bool false]) (by rw [results_row_one (u := 3) rfl _ _ w.heap.size 45 #[.int .i64 0, .int .i64 0, .int .i64 0, .int .i64 0, .int .i64 0, .int .i64 0, .int .i64 0, .int .i64 0, .int .i64 0, .slice none 0 0, .int .i64 0, .int .i64 0, .int .i64 0, .int .i64 0, .int .i64 0, .int .i64 0, .int .i64 0, .int .i64 0] (0, 0) _ rfl HST.out.2 Tryd.underlying45 rfl (by kernel_rfl)]; rfl) rfl HF.out
  have hii : ¬ (L : Int) < 18 := by omega
  have hii' : 18 ≤ (L : Int) := by omega
  obtain ⟨g, rfl, hgl, hcs⟩ := HOC.out (by omega)
  have HC := Lib.hid (fun X (hX : Below w.heap.size w X) j (hj : j < L) => show X.cell? ⟨g, j, none⟩ = some (.int .i64 (numAt ns j)) from (hX.cell (p := ⟨g, j, none⟩) hgl).trans (hcs j hj))
  clear HOC hcs
  have c9 := HC.out w0 HB0.out 9 (by omega)
  have i9 : (9 : Int) < (L : Int) := by omega
  have j9 : 9 < L := by omega
  have i10 : (10 : Int) ≤ (L : Int) := by omega
  have j10 : 10 ≤ L := by omega
  have k10 : 10 ≤ c := by omega
  obtain ⟨x, hx⟩ : ∃ x, numAt ns 9 = x := ⟨_, rfl⟩
  rw [hx] at c9
  have HX9 := Lib.hid hx
  clear hx HFAIL
  by_cases hneg : x < 0
  · have t : decide (x < 0) = true := decide_eq_true hneg
    have HF := Lib.hid (fun q => HFQ.out q fun m hm => by have := HN9.out m hm; have := HX9.out; omega)
    clear HLEN HN9 HC HFQ
    go_enter Tryd.func52, Tryd.ntmps52
    go_wp2_with (rw [HW0.out])
    go_quiet (fail)
    go_wp2_with (refine wpList_store_known rfl 45 _ _ rfl ⟨w.heap.size, 0, none⟩ _ rfl rfl (HSQ.out _).1 ?_)
    (try simp only [Exit.inBlock, Exit.then]); refine bodyPost_ret (v := .tuple #[.agg #[.int .i64 0, .int .i64 0, .int .i64 0, .int .i64 0, .int .i64 0, .int .i64 0, .int .i64 0, .int .i64 0, .int .i64 0, .slice none 0 0, .int .i64 0, .int .i64 0, .int .i64 0, .int .i64 0, .int .i64 0, .int .i64 0, .int .i64 0, .int .i64 0], .bool false]) (by rw [results_row_one (u := 3) rfl _ _ w.heap.size 45 #[.int .i64 0, .int .i64 0, .int .i64 0, .int .i64 0, .int .i64 0, .int .i64 0, .int .i64 0, .int .i64 0, .int .i64 0, .slice none 0 0, .int .i64 0, .int .i64 0, .int .i64 0, .int .i64 0, .int .i64 0, .int .i64 0, .int .i64 0, .int .i64 0] (0, 0) _ rfl (HSQ.out _).2 Tryd.underlying45 rfl (by kernel_rfl)]; rfl) rfl (HF.out _)
  have t1 : decide (x < 0) = false := decide_eq_false hneg
  by_cases hgt : 64 < x
  · have t : decide (64 < x) = true := decide_eq_true hgt
    have HF := Lib.hid (fun q => HFQ.out q fun m hm => by have := HN9.out m hm; have := HX9.out; omega)
    clear HLEN HN9 HC HFQ
    go_enter Tryd.func52, Tryd.ntmps52
    go_wp2_with (rw [HW0.out])
    go_quiet (fail)
    go_wp2_with (refine wpList_store_known rfl 45 _ _ rfl ⟨w.heap.size, 0, none⟩ _ rfl rfl (HSQ.out _).1 ?_)
    (try simp only [Exit.inBlock, Exit.then]); refine bodyPost_ret (v := .tuple #[.agg #[.int .i64 0, .int .i64 0, .int .i64 0, .int .i64 0, .int .i64 0, .int .i64 0, .int .i64 0, .int .i64 0, .int .i64 0, .slice none 0 0, .int .i64 0, .int .i64 0, .int .i64 0, .int .i64 0, .int .i64 0, .int .i64 0, .int .i64 0, .int .i64 0], .bool false]) (by rw [results_row_one (u := 3) rfl _ _ w.heap.size 45 #[.int .i64 0, .int .i64 0, .int .i64 0, .int .i64 0, .int .i64 0, .int .i64 0, .int .i64 0, .int .i64 0, .int .i64 0, .slice none 0 0, .int .i64 0, .int .i64 0, .int .i64 0, .int .i64 0, .int .i64 0, .int .i64 0, .int .i64 0, .int .i64 0] (0, 0) _ rfl (HSQ.out _).2 Tryd.underlying45 rfl (by kernel_rfl)]; rfl) rfl (HF.out _)
  have t2 : decide (64 < x) = false := decide_eq_false hgt
  obtain ⟨X, rfl⟩ : ∃ X : Nat, x = (X : Int) := ⟨x.toNat, by omega⟩
  have hX64 : X ≤ 64 := by omega
  have hX0 : 0 ≤ (X : Int) := by omega
  have hX64' : (X : Int) ≤ 64 := by omega
  clear hneg hgt
  by_cases hne : L = 18 + 6 * X
  rotate_left
  · have t : ((L : Int) == 18 + (X : Int) * 6) = false := by simp; omega
    have HF := Lib.hid (fun q => HFQ.out q fun m hm => by have := HN9.out m hm; have := HX9.out; have := HLEN.out m hm; omega)
    clear HLEN HN9 HC HFQ hne
    go_enter Tryd.func52, Tryd.ntmps52
    go_wp2_with (rw [HW0.out])
    go_quiet (fail)
    go_wp2_with (refine wpList_store_known rfl 45 _ _ rfl ⟨w.heap.size, 0, none⟩ _ rfl rfl (HSQ.out _).1 ?_)
    (try simp only [Exit.inBlock, Exit.then]); refine bodyPost_ret (v := .tuple #[.agg #[.int .i64 0, .int .i64 0, .int .i64 0, .int .i64 0, .int .i64 0, .int .i64 0, .int .i64 0, .int .i64 0, .int .i64 0, .slice none 0 0, .int .i64 0, .int .i64 0, .int .i64 0, .int .i64 0, .int .i64 0, .int .i64 0, .int .i64 0, .int .i64 0], .bool false]) (by rw [results_row_one (u := 3) rfl _ _ w.heap.size 45 #[.int .i64 0, .int .i64 0, .int .i64 0, .int .i64 0, .int .i64 0, .int .i64 0, .int .i64 0, .int .i64 0, .int .i64 0, .slice none 0 0, .int .i64 0, .int .i64 0, .int .i64 0, .int .i64 0, .int .i64 0, .int .i64 0, .int .i64 0, .int .i64 0] (0, 0) _ rfl (HSQ.out _).2 Tryd.underlying45 rfl (by kernel_rfl)]; rfl) rfl (HF.out _)
  exact absurd ⟨X, hX64, hne, HX9.out⟩ hbad
end Go.Proofs.YtkdnhfeamibmdaaDoor
