/-
  Apply of the document, of a RecView: what it comes to.
-/
import Derived.Test.YtnbhdehpdfojlaaDoorRgRApp
namespace Go.Proofs.YtnbhdehpdfojlaaDoor
open Go.RowKit Go.Sort
theorem frmR_new {r : Re} {ep : Int} (h : ep = r.v) : frmR r ep = r.es.length := by unfold frmR; rw [if_pos h]
theorem frmR_old {r : Re} {ep : Int} (h : ¬ ep = r.v) : frmR r ep = 0 := by unfold frmR; rw [if_neg h]
theorem appQ_2log {r : Re} {ep vi fr le : Int} {xs : List En} (h : r.may = true) (c1 : ¬ ep < 1) (c2 : ¬ ep < r.p) (c3 : fr = (frmR r ep : Int)) (c : logB (r.es.take (frmR r ep) ++ xs) ep = false) : appQ r ⟨2, ep, vi, fr, le, xs⟩ = (Re.zero, false) := by
  refine appQ_not ?_
  rw [behD_2 h c1 c2 c3, ← Bool.not_eq_true, Re.may_iff]
  dsimp only
  rw [c]
  simp
theorem appQ_2pre {r : Re} {ep vi fr le : Int} {xs : List En} (h : r.may = true) (c1 : ¬ ep < 1) (c2 : ¬ ep < r.p) (c3 : fr = (frmR r ep : Int)) (c : pre (r.es.take r.m.toNat) (r.es.take (frmR r ep) ++ xs) = false) : appQ r ⟨2, ep, vi, fr, le, xs⟩ = (Re.zero, false) :=
  appQ_beh (by rw [behD_2 h c1 c2 c3]; exact c)
theorem appQ_2yes {r : Re} {ep vi fr le : Int} {xs : List En} (h : r.may = true) (c1 : ¬ ep < 1) (c2 : ¬ ep < r.p) (c4 : ¬ 1048576 < ep) (c3 : fr = (frmR r ep : Int)) (cl : logB (r.es.take (frmR r ep) ++ xs) ep = true) (cm : ¬ ((r.es.take (frmR r ep) ++ xs).length : Int) < r.m) (c : pre (r.es.take r.m.toNat) (r.es.take (frmR r ep) ++ xs) = true) : appQ r ⟨2, ep, vi, fr, le, xs⟩ = (⟨ep, ep, r.es.take (frmR r ep) ++ xs, r.m⟩, true) := by
  have hm := (Re.may_iff r).1 h
  have := appQ_yes (x := ⟨2, ep, vi, fr, le, xs⟩) h (by rw [behD_2 h c1 c2 c3]; exact c) (by rw [behD_2 h c1 c2 c3, Re.may_iff]; dsimp only; exact ⟨by omega, by omega, by omega, cl, hm.2.2.2.2.1, by omega⟩)
  rw [this, behD_2 h c1 c2 c3]
end Go.Proofs.YtnbhdehpdfojlaaDoor
