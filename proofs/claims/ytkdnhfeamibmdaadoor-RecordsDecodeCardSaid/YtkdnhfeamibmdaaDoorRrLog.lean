/-
  Log of the document's records: may the entries be, of a stream, so many at most?
-/
import Derived.Test.YtkdnhfeamibmdaaDoorRcInts
import Derived.Test.YtkdnhfeamibmdaaDoorORMay
namespace Go.Proofs.YtkdnhfeamibmdaaDoor
open Go.RowKit Go.Sort
theorem rall_no {α : Type} {f : α → Bool} {l : List α} {k : Nat} (hk : k < l.length) (h : f l[k] = false) : l.all f = false := by
  rw [List.all_eq_false]
  exact ⟨l[k], List.getElem_mem hk, by rw [h]; simp⟩
theorem rall_step {α : Type} {f : α → Bool} {l : List α} {k : Nat} (hk : k < l.length) (h : (l.take k).all f = true) (h2 : f l[k] = true) : (l.take (k + 1)).all f = true := by
  rw [List.take_succ_eq_append_getElem hk, List.all_append, h]
  simp [h2]
set_option maxRecDepth 100000 in
set_option maxHeartbeats 4000000 in
theorem rlogf_any {es : List En} {v : Value} {w : World} (hE : EsB w.heap.size w v es) (st most : Int) :
    Calls Tryd.prog 58 #[v, .int .i64 st, .int .i64 most] w (NumPost (.bool (decide ((es.length : Int) ≤ most) && es.all (En.may st))) w) := by
  have HC := Lib.hid (fun X (hb : Below w.heap.size w X) k (hk : k < es.length) => EsB.cells (hE.below hb (Nat.le_refl _)) hk)
  obtain ⟨A, c, rfl, h1, h2, -⟩ := hE.len
  unfold maxLen at h2
  clear hE
  by_cases hm : most < (es.length : Int)
  · have u : decide (most < (es.length : Int)) = true := decide_eq_true hm
    have hr : (decide ((es.length : Int) ≤ most) && es.all (En.may st)) = false := by rw [decide_eq_false (by omega)]; rfl
    rw [hr]
    clear hr
    go_enter Tryd.func58, Tryd.ntmps58
    go_wp2_with fail
    go_ret
    exact ⟨rfl, Below.refl _ _⟩
  have u : decide (most < (es.length : Int)) = false := decide_eq_false hm
  have hr : (decide ((es.length : Int) ≤ most) && es.all (En.may st)) = es.all (En.may st) := by rw [decide_eq_true (by omega)]; rfl
  rw [hr]
  clear hr hm
  have HG := Lib.hid (fun (o : Od) X => rmay_any o X)
  go_enter Tryd.func58, Tryd.ntmps58
  go_wp2_with fail
  go_loopw [7] (fun i wr => ∃ k : Nat, k ≤ es.length ∧ i = .int .i64 k ∧ Hid ((es.take k).all (En.may st) = true) ∧ Hid (Below w.heap.size w wr)) (fun i _ => es.length - (intOf i).toNat)
  case atStart => exact ⟨0, Nat.zero_le _, rfl, Lib.hid rfl, Lib.hid (Below.refl _ _)⟩
  case round =>
    obtain ⟨k, hk, rfl, HALL, HBE⟩ := hrel
    by_cases hlt : k < es.length
    · obtain ⟨b1, o1, c1', hv, hbb1, x0, x1, x2, x3, x4, x5⟩ := HC.out wr HBE.out k hlt
      injection hv with e1 e2 e3
      subst e1 e3
      clear e2
      have hii : (k : Int) < (es.length : Int) := by omega
      have HNO := Lib.hid (fun h => rall_no (f := En.may st) hlt h)
      have HYES := Lib.hid (fun h => rall_step (f := En.may st) hlt HALL.out h)
      generalize es[k] = x at *
      obtain ⟨ep, oi, os_, oe, ok, oa⟩ := x
      have HME : Hid (En.may st ⟨ep, oi, os_, oe, ok, oa⟩ = (decide (1 ≤ ep ∧ ep ≤ 1048576) && (decide (os_ = st) && (Od.mk oi os_ oe ok oa).may))) := rfl
      have HEP := Lib.hid (fun X => repoch_any ep 1 X)
      have HO := Lib.hid (HG.out ⟨oi, os_, oe, ok, oa⟩)
      simp only [Od.v] at HO
      have hin : inb 1 1048576 ep = decide (1 ≤ ep ∧ ep ≤ 1048576) := by unfold inb; simp
      rw [hin] at HEP
      clear hin
      simp only at x0 x1 x2 x3 x4 x5
      generalize (Od.mk oi os_ oe ok oa).may = my at *
      by_cases hep : ¬ (1 ≤ ep ∧ ep ≤ 1048576)
      · have hd : decide (1 ≤ ep ∧ ep ≤ 1048576) = false := decide_eq_false hep
        have HF := Lib.hid (HNO.out (by rw [HME.out, hd]; rfl))
        rw [hd] at HEP
        clear hd hep HME HNO HYES
        go_wp2_with fail
        refine (HEP.out _).mono ?_
        rintro e w' ⟨rfl, rfl⟩
        go_wp2_with fail
        go_ret
        exact ⟨ret_bool HF.out.symm, HBE.out⟩
      have hd : decide (1 ≤ ep ∧ ep ≤ 1048576) = true := decide_eq_true (Decidable.not_not.1 hep)
      rw [hd] at HEP HME
      clear hd hep
      cases my
      · have HF := Lib.hid (HNO.out (by rw [HME.out]; simp))
        clear HME HNO HYES
        go_wp2_with fail
        refine (HEP.out _).mono ?_
        rintro e w' ⟨rfl, rfl⟩
        go_wp2_with fail
        refine (HO.out _).mono ?_
        rintro e w5 ⟨rfl, hb⟩
        have HB5 := Lib.hid (HBE.out.trans (hb.mono HBE.out.size))
        clear hb
        go_wp2_with fail
        go_ret
        exact ⟨ret_bool HF.out.symm, HB5.out⟩
      by_cases hs : os_ = st
      · subst hs
        have HT := Lib.hid (HYES.out (by rw [HME.out]; simp))
        clear HME HNO HYES
        go_wp2_with fail
        refine (HEP.out _).mono ?_
        rintro e w' ⟨rfl, rfl⟩
        go_wp2_with fail
        refine (HO.out _).mono ?_
        rintro e w5 ⟨rfl, hb⟩
        have HB5 := Lib.hid (HBE.out.trans (hb.mono HBE.out.size))
        have hbl : b1 < wr.heap.size := Nat.lt_of_lt_of_le hbb1 HBE.out.size
        have y2 := (hb.cell (p := ⟨b1, o1 + k * 6 + 2, none⟩) hbl).trans x2
        clear hb
        go_wp2_with fail
        go_roundw
        case rel => exact ⟨k + 1, by omega, by go_num, HT, HB5⟩
        case measure => simp [intOf]; omega
      · have u2 : (os_ != st) = true := by simpa using hs
        have HF := Lib.hid (HNO.out (by rw [HME.out, decide_eq_false hs]; rfl))
        clear HME HNO HYES hs
        go_wp2_with fail
        refine (HEP.out _).mono ?_
        rintro e w' ⟨rfl, rfl⟩
        go_wp2_with fail
        refine (HO.out _).mono ?_
        rintro e w5 ⟨rfl, hb⟩
        have HB5 := Lib.hid (HBE.out.trans (hb.mono HBE.out.size))
        have hbl : b1 < wr.heap.size := Nat.lt_of_lt_of_le hbb1 HBE.out.size
        have y2 := (hb.cell (p := ⟨b1, o1 + k * 6 + 2, none⟩) hbl).trans x2
        clear hb
        go_wp2_with fail
        go_ret
        exact ⟨ret_bool HF.out.symm, HB5.out⟩
    · have HX : Hid (es.all (En.may st) = true) := by show _ = _; rw [← HALL.out, List.take_of_length_le (by omega)]
      clear hk
      go_wp2_with fail
      go_ret
      exact ⟨ret_bool HX.out.symm, HBE.out⟩
end Go.Proofs.YtkdnhfeamibmdaaDoor
