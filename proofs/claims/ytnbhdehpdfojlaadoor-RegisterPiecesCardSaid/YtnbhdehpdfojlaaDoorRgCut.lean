/-
  A log cut at both ends.
-/
import Derived.Test.YtnbhdehpdfojlaaDoorRgPure
namespace Go.Proofs.YtnbhdehpdfojlaaDoor
open Go.RowKit Go.Sort
/-- Entries lo to hi of a log. -/
theorem EsB.cut {B : Nat} {w : World} {A : Option Addr} {n c : Nat} {es : List En} (h : EsB B w (.slice A n c) es) {lo hi : Nat} (h1 : lo ≤ hi) (h2 : hi ≤ es.length) :
    EsB B w (.slice (if c = lo then A else A.map fun x => x.add (lo * 6)) (hi - lo) (c - lo)) ((es.take hi).drop lo) := by
  have hlc := es_len h
  obtain ⟨A', c', hv, k1, k2, k3, k4⟩ := h
  injection hv with e1 e2 e3
  subst e1 e3
  have hl : ((es.take hi).drop lo).length = hi - lo := by simp; omega
  by_cases hc : c = lo
  · rw [if_pos hc]
    have h0 : hi - lo = 0 := by omega
    have hnil : (es.take hi).drop lo = [] := List.eq_nil_of_length_eq_zero (by omega)
    rw [hnil, h0]
    refine ⟨A, c - lo, rfl, Nat.zero_le _, by omega, fun e => ⟨rfl, by have := (k3 e).2; omega⟩, fun h => by simp at h⟩
  · rw [if_neg hc]
    rcases A with _ | ⟨b, o, sp⟩
    · have := (k3 rfl).2; omega
    · refine ⟨_, c - lo, by rw [hl], by rw [hl]; omega, by omega, (fun e => by cases e), fun h0 => ?_⟩
      rw [hl] at h0
      obtain ⟨b', o', e, hb, hx⟩ := k4 (by omega)
      injection e with e
      injection e with e1 e2 e3
      subst e1 e2 e3
      refine ⟨b, o + lo * 6, by simp [Addr.add_lit], hb, fun j x hj => ?_⟩
      rw [Nat.add_assoc]
      refine hx (lo * 6 + j) x ?_
      have hf : (es.map En.l).flatten = ((es.take lo).map En.l).flatten ++ ((es.drop lo).map En.l).flatten := by
        rw [← List.flatten_append, ← List.map_append, List.take_append_drop]
      have hfl : ((es.take lo).map En.l).flatten.length = lo * 6 := by rw [en_flat]; simp; omega
      rw [hf, List.getElem?_append_right (by omega), hfl, Nat.add_sub_cancel_left]
      have hs : (es.take hi).drop lo = (es.drop lo).take (hi - lo) := by rw [List.drop_take]
      rw [hs] at hj
      have hf2 : ((es.drop lo).map En.l).flatten = (((es.drop lo).take (hi - lo)).map En.l).flatten ++ (((es.drop lo).drop (hi - lo)).map En.l).flatten := by
        rw [← List.flatten_append, ← List.map_append, List.take_append_drop]
      rw [hf2, List.getElem?_append_left (List.getElem?_eq_some_iff.1 hj).1]
      exact hj
end Go.Proofs.YtnbhdehpdfojlaaDoor
