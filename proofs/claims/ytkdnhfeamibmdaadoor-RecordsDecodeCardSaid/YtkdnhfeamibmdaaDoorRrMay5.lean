/-
  May of the document's records: a feed; and whole. Check.
-/
import Derived.Test.YtkdnhfeamibmdaaDoorRrMay
namespace Go.Proofs.YtkdnhfeamibmdaaDoor
open Go.RowKit Go.Sort
set_option maxRecDepth 100000 in
set_option maxHeartbeats 8000000 in
theorem rmay_5no (st ep vi fr le : Int) (n m c c' : Nat) (A A' : Option Addr) (ea fa : Bool) (w : World)
    (HN : Hid (¬ (st = 0 ∧ ep = 0 ∧ vi = 0 ∧ fr = 0 ∧ le = 0 ∧ n = 0 ∧ m ≤ 256))) :
    Calls Tryd.prog 32 #[.agg #[.int .i64 5, .int .i64 st, .int .i64 ep, .int .i64 vi, .int .i64 fr, .int .i64 le, .slice A n c, .slice A' m c']] w (NumPost (.bool (decide (numsM 5 st ep vi fr le n m) && (ea && fa))) w) := by
  obtain ⟨mb, HM⟩ : ∃ mb, Hid (mb = (decide (numsM 5 st ep vi fr le n m) && (ea && fa))) := ⟨_, Lib.hid rfl⟩
  rw [← HM.out]
  have HF : Hid (mb = false) := by
    show _ = _
    rw [HM.out, decide_eq_false (by have := HN.out; unfold numsM; omega)]; rfl
  clear HM
  go_enter Tryd.func32, Tryd.ntmps32
  go_wp2_with fail
  all_goals
    first
      | (go_ret; exact ⟨ret_bool HF.out.symm, (Below.refl _ _).alloc (Nat.le_refl _) _⟩)
      | (exfalso; have := HN.out; simp at *; omega)
set_option maxRecDepth 100000 in
set_option maxHeartbeats 8000000 in
theorem rmay_5 (c : Nat) (A : Option Addr) {fd : List Sp} {vf : Value} (w : World) (hF : FdB w.heap.size w vf fd) (hm : fd.length ≤ 256) :
    Calls Tryd.prog 32 #[.agg #[.int .i64 5, .int .i64 0, .int .i64 0, .int .i64 0, .int .i64 0, .int .i64 0, .slice A 0 c, vf]] w (NumPost (.bool (fd.all Sp.may)) w) := by
  have HC := Lib.hid (fun X (hb : Below w.heap.size w X) k (hk : k < fd.length) => FdB.cells (hF.below hb (Nat.le_refl _)) hk)
  obtain ⟨A', c', rfl, h1, h2, -⟩ := hF.len
  unfold maxLen at h2
  clear hF
  have u : decide (256 < (fd.length : Int)) = false := decide_eq_false (by omega)
  obtain ⟨w1, HX1⟩ : ∃ W : World, Hid (W = w.alloc (.cells #[.int .i64 5, .int .i64 0, .int .i64 0, .int .i64 0, .int .i64 0, .int .i64 0, .slice A 0 c, .slice A' fd.length c'] 25)) := ⟨_, Lib.hid rfl⟩
  have hb1 : Below w.heap.size w w1 := by rw [HX1.out]; exact (Below.refl _ _).alloc (Nat.le_refl _) _
  have hx1 : w1.heap[w.heap.size]? = some (.cells #[.int .i64 5, .int .i64 0, .int .i64 0, .int .i64 0, .int .i64 0, .int .i64 0, .slice A 0 c, .slice A' fd.length c'] 25 (0, 0)) := by rw [HX1.out]; exact heap_alloc_new _ _
  have q0 : w1.cell? ⟨w.heap.size, 0, none⟩ = some (.int .i64 5) := by rw [Lib.cell_of_heap hx1]; rfl
  have q1 : w1.cell? ⟨w.heap.size, 1, none⟩ = some (.int .i64 0) := by rw [Lib.cell_of_heap hx1]; rfl
  have q2 : w1.cell? ⟨w.heap.size, 2, none⟩ = some (.int .i64 0) := by rw [Lib.cell_of_heap hx1]; rfl
  have q3 : w1.cell? ⟨w.heap.size, 3, none⟩ = some (.int .i64 0) := by rw [Lib.cell_of_heap hx1]; rfl
  have q4 : w1.cell? ⟨w.heap.size, 4, none⟩ = some (.int .i64 0) := by rw [Lib.cell_of_heap hx1]; rfl
  have q5 : w1.cell? ⟨w.heap.size, 5, none⟩ = some (.int .i64 0) := by rw [Lib.cell_of_heap hx1]; rfl
  have q6 : w1.cell? ⟨w.heap.size, 6, none⟩ = some (.slice A 0 c) := by rw [Lib.cell_of_heap hx1]; rfl
  have q7 : w1.cell? ⟨w.heap.size, 7, none⟩ = some (.slice A' fd.length c') := by rw [Lib.cell_of_heap hx1]; rfl
  have HB1 := Lib.hid hb1
  clear hb1 hx1
  go_enter Tryd.func32, Tryd.ntmps32
  go_wp2_with (rw [← HX1.out])
  go_loopw [4] (fun i wr => ∃ k : Nat, k ≤ fd.length ∧ i = .int .i64 k ∧ Hid ((fd.take k).all Sp.may = true) ∧ w1 = wr) (fun i _ => fd.length - (intOf i).toNat)
  case atStart => exact ⟨0, Nat.zero_le _, rfl, Lib.hid rfl, by first | rfl | exact HX1.out | exact HX1.out.symm⟩
  case round =>
    obtain ⟨k, hk, rfl, HALL, rfl⟩ := hrel
    by_cases hlt : k < fd.length
    · obtain ⟨b1, o1, c1', hv, hbb1, x0, x1⟩ := HC.out w1 HB1.out k hlt
      injection hv with e1 e2 e3
      subst e1 e3
      clear e2
      have hii : (k : Int) < (fd.length : Int) := by omega
      have HNO := Lib.hid (fun h => rall_no (f := Sp.may) hlt h)
      have HYES := Lib.hid (fun h => rall_step (f := Sp.may) hlt HALL.out h)
      generalize fd[k] = x at *
      obtain ⟨a, i⟩ := x
      have HME : Hid (Sp.may ⟨a, i⟩ = decide (0 ≤ a ∧ a ≤ 3 ∧ 0 ≤ i ∧ i ≤ 63)) := rfl
      have HST := Lib.hid (fun X => rstream_any a X)
      have hin : inb 0 3 a = decide (0 ≤ a ∧ a ≤ 3) := by unfold inb; simp
      rw [hin] at HST
      clear hin
      simp only at x0 x1
      by_cases hs : ¬ (0 ≤ a ∧ a ≤ 3)
      · have HF := Lib.hid (HNO.out (by rw [HME.out, decide_eq_false (by omega)]))
        rw [decide_eq_false hs] at HST
        clear hs HME HNO HYES
        go_wp2_with fail
        refine (HST.out _).mono ?_
        rintro e w' ⟨rfl, rfl⟩
        go_wp2_with fail
        go_ret
        exact ⟨ret_bool HF.out.symm, HB1.out⟩
      have hs := Decidable.not_not.1 hs
      rw [decide_eq_true hs] at HST
      by_cases hi : ¬ (0 ≤ i)
      · have u1 : decide (i < 0) = true := decide_eq_true (by omega)
        have HF := Lib.hid (HNO.out (by rw [HME.out, decide_eq_false (by omega)]))
        clear hs hi HME HNO HYES
        go_wp2_with fail
        refine (HST.out _).mono ?_
        rintro e w' ⟨rfl, rfl⟩
        go_wp2_with fail
        go_ret
        exact ⟨ret_bool HF.out.symm, HB1.out⟩
      have u1 : decide (i < 0) = false := decide_eq_false (by omega)
      by_cases hj : ¬ (i ≤ 63)
      · have u2 : decide (64 ≤ i) = true := decide_eq_true (by omega)
        have HF := Lib.hid (HNO.out (by rw [HME.out, decide_eq_false (by omega)]))
        clear hs hi hj HME HNO HYES
        go_wp2_with fail
        refine (HST.out _).mono ?_
        rintro e w' ⟨rfl, rfl⟩
        go_wp2_with fail
        go_ret
        exact ⟨ret_bool HF.out.symm, HB1.out⟩
      have u2 : decide (64 ≤ i) = false := decide_eq_false (by omega)
      have HT := Lib.hid (HYES.out (by rw [HME.out, decide_eq_true (by omega)]))
      clear hs hi hj HME HNO HYES
      go_wp2_with fail
      refine (HST.out _).mono ?_
      rintro e w' ⟨rfl, rfl⟩
      go_wp2_with fail
      go_roundw
      case rel => exact ⟨k + 1, by omega, by go_num, HT, trivial⟩
      case measure => simp [intOf]; omega
    · have HX : Hid (fd.all Sp.may = true) := by show _ = _; rw [← HALL.out, List.take_of_length_le (by omega)]
      clear hk
      go_wp2_with fail
      go_ret
      exact ⟨ret_bool HX.out.symm, HB1.out⟩
theorem rmayrec_any (r : Rec) {ve vf : Value} {w : World} (hE : EsB w.heap.size w ve r.es) (hF : FdB w.heap.size w vf r.fd) :
    Calls Tryd.prog 32 #[r.v ve vf] w (NumPost (.bool r.may) w) := by
  have hL : ∀ (X : World) (most : Int), Below w.heap.size w X → Calls Tryd.prog 58 #[ve, .int .i64 r.st, .int .i64 most] X (NumPost (.bool (decide ((r.es.length : Int) ≤ most) && r.es.all (En.may r.st))) X) :=
    fun X most hb => rlogf_any ((RdB.below hE hb (Nat.le_refl _)).mono hb.size) r.st most
  have h0 : r.es.length = 0 → r.es.all (En.may r.st) = true := fun h => by rw [List.length_eq_zero_iff.1 h]; rfl
  have h0' : r.fd.length = 0 → r.fd.all Sp.may = true := fun h => by rw [List.length_eq_zero_iff.1 h]; rfl
  have hF' := hF
  obtain ⟨A, c, rfl, -⟩ := RdB.len hE
  obtain ⟨A', c', rfl, -⟩ := RdB.len hF
  obtain ⟨ki, st, ep, vi, fr, le, es, fd⟩ := r
  show Calls _ _ #[.agg #[.int .i64 ki, .int .i64 st, .int .i64 ep, .int .i64 vi, .int .i64 fr, .int .i64 le, .slice A es.length c, .slice A' fd.length c']] _ (NumPost (.bool (decide (numsM ki st ep vi fr le es.length fd.length) && (es.all (En.may st) && fd.all Sp.may))) w)
  by_cases h1 : ki = 1
  · subst h1; exact rmay_1 st ep vi fr le _ _ c c' A A' _ _ w h0 h0' (Lib.hid hL)
  by_cases h2 : ki = 2
  · subst h2; exact rmay_2 st ep vi fr le _ _ c c' A A' _ _ w h0 h0' (Lib.hid hL)
  by_cases h3 : ki = 3
  · subst h3; exact rmay_3 st ep vi fr le _ _ c c' A A' _ _ w h0 h0' (Lib.hid hL)
  by_cases h4 : ki = 4
  · subst h4; exact rmay_4 st ep vi fr le _ _ c c' A A' _ _ w h0 h0' (Lib.hid hL)
  by_cases h5 : ki = 5
  · subst h5
    by_cases hN : st = 0 ∧ ep = 0 ∧ vi = 0 ∧ fr = 0 ∧ le = 0 ∧ es.length = 0 ∧ fd.length ≤ 256
    · obtain ⟨rfl, rfl, rfl, rfl, rfl, hn, hm⟩ := hN
      have h0 := h0 hn
      simp only at h0
      rw [h0, hn, decide_eq_true (by unfold numsM; omega), Bool.true_and, Bool.true_and]
      exact rmay_5 c A w hF' hm
    · exact rmay_5no st ep vi fr le _ _ c c' A A' _ _ w (Lib.hid hN)
  exact rmay_e ki st ep vi fr le _ _ c c' A A' _ _ w h0 h0' (Lib.hid hL) (by simp [h1]) (by simp [h2]) (by simp [h3]) (by simp [h4]) (by simp [h5]) (by simp [h5])
theorem rcheckrec_any (r : Rec) {ve vf : Value} {w : World} (hE : EsB w.heap.size w ve r.es) (hF : FdB w.heap.size w vf r.fd) :
    Calls Tryd.prog 11 #[r.v ve vf] w (NumPost (.int .i64 r.err) w) := by
  have HE : Hid (r.err = if r.may then 0 else 2) := rfl
  generalize r.err = er at *
  have hb0 : ∀ o : Obj, EsB (w.alloc o).heap.size (w.alloc o) ve r.es ∧ FdB (w.alloc o).heap.size (w.alloc o) vf r.fd := fun o =>
    have hb : Below w.heap.size w (w.alloc o) := (Below.refl _ _).alloc (Nat.le_refl _) o
    ⟨(RdB.below hE hb (Nat.le_refl _)).mono hb.size, (RdB.below hF hb (Nat.le_refl _)).mono hb.size⟩
  have HG := Lib.hid (fun o : Obj => rmayrec_any r (hb0 o).1 (hb0 o).2)
  obtain ⟨A, c, rfl, -⟩ := RdB.len hE
  obtain ⟨A', c', rfl, -⟩ := RdB.len hF
  clear hE hF hb0
  generalize r.may = my at *
  obtain ⟨ki, st, ep, vi, fr, le, es, fd⟩ := r
  dsimp only [Rec.v] at *
  cases my
  all_goals
    go_enter Tryd.func11, Tryd.ntmps11
    go_wp2_with fail
    refine (HG.out _).mono ?_
    rintro e w1 ⟨rfl, hb1⟩
    have hb2 : Below w.heap.size w w1 := ((Below.refl _ _).alloc (Nat.le_refl _) _).trans (hb1.mono (by simp))
    go_wp2_with fail
    go_ret
    exact ⟨by rw [HE.out]; rfl, hb2⟩
end Go.Proofs.YtkdnhfeamibmdaaDoor
