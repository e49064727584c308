/-
  Logs and outcomes as they stand in memory.
-/
import Derived.Test.YtafhjlfnhgkcoaaDoorFoMath
import Derived.Test.YtafhjlfnhgkcoaaDoorAeRow
import Derived.Laws.EntriesVeiled
namespace Go.Proofs.YtafhjlfnhgkcoaaDoor
open Go.RowKit
/-- A slice that reads as these entries, in blocks below B. -/
def EsB (B : Nat) (w : World) (v : Value) (es : List En) : Prop := RdB B w v es.length (es.map En.l).flatten
theorem EsB.cells {B : Nat} {w : World} {v : Value} {es : List En} (h : EsB B w v es) {k : Nat} (hk : k < es.length) : ∃ b o c, v = .slice (some ⟨b, o, none⟩) es.length c ∧ b < B ∧
    w.cell? ⟨b, o + k * 6, none⟩ = some (.int .i64 es[k].ep) ∧ w.cell? ⟨b, o + k * 6 + 1, none⟩ = some (.int .i64 es[k].o.id) ∧ w.cell? ⟨b, o + k * 6 + 2, none⟩ = some (.int .i64 es[k].o.st) ∧
    w.cell? ⟨b, o + k * 6 + 3, none⟩ = some (.int .i64 es[k].o.ex) ∧ w.cell? ⟨b, o + k * 6 + 4, none⟩ = some (.int .i64 es[k].o.ki) ∧ w.cell? ⟨b, o + k * 6 + 5, none⟩ = some (.int .i64 es[k].o.ar) := by
  obtain ⟨A, c, rfl, _, _, _, h5⟩ := h
  obtain ⟨b, o, rfl, hl, hc⟩ := h5 (by omega)
  have hr : ∀ r ∈ es.map En.l, r.length = 6 := fun x hx => by obtain ⟨e, _, rfl⟩ := List.mem_map.1 hx; rfl
  have at_ : ∀ j, j < 6 → (es.map En.l).flatten[k * 6 + j]? = es[k].l[j]? := fun j hj => by
    rw [flat_at hr (by simpa using hk) hj, List.getElem_map]
  refine ⟨b, o, c, rfl, hl, ?_, ?_, ?_, ?_, ?_, ?_⟩
  · exact hc (k * 6) _ (at_ 0 (by omega))
  · rw [Nat.add_assoc]; exact hc (k * 6 + 1) _ (at_ 1 (by omega))
  · rw [Nat.add_assoc]; exact hc (k * 6 + 2) _ (at_ 2 (by omega))
  · rw [Nat.add_assoc]; exact hc (k * 6 + 3) _ (at_ 3 (by omega))
  · rw [Nat.add_assoc]; exact hc (k * 6 + 4) _ (at_ 4 (by omega))
  · rw [Nat.add_assoc]; exact hc (k * 6 + 5) _ (at_ 5 (by omega))
theorem EsB.take {B : Nat} {w : World} {A : Option Addr} {n c : Nat} {es : List En} (h : EsB B w (.slice A n c) es) {i : Nat} (hi : i ≤ es.length) : EsB B w (.slice A i c) (es.take i) := by
  obtain ⟨A', c', hv, h2, h3, h4, h5⟩ := h
  injection hv with e1 _ e3
  subst e1 e3
  have hl : (es.take i).length = i := by simp [Nat.min_eq_left hi]
  refine ⟨A, c, by rw [hl], by omega, h3, fun e => ?_, fun h0 => ?_⟩
  · have := h4 e; omega
  · obtain ⟨b, o, rfl, hl', hc⟩ := h5 (by omega)
    refine ⟨b, o, rfl, hl', fun j x hx => hc j x ?_⟩
    have hf : (es.map En.l).flatten = ((es.take i).map En.l).flatten ++ ((es.drop i).map En.l).flatten := by
      rw [← List.flatten_append, ← List.map_append, List.take_append_drop]
    rw [hf, List.getElem?_append_left (List.getElem?_eq_some_iff.1 hx).1]
    exact hx
/-- The events that an outcome has: none, or one in a row of its own in blocks from lo up to hi. -/
def EvH (lo hi : Nat) (w : World) (V : Value) (l : List Ev) : Prop :=
  (l = [] ∧ V = .slice none 0 0) ∨ ∃ e g, l = [e] ∧ V = .slice (some ⟨g, 0, none⟩) 1 1 ∧ lo ≤ g ∧ g < hi ∧ w.heap[g]? = some (.cells #[.int .i64 e.k, .int .i64 e.a] 35 (0, 0))
theorem EvH.keep {lo hi lo' hi' : Nat} {w w' : World} {V : Value} {l : List Ev} (h : EvH lo hi w V l) (hk : ∀ k, lo ≤ k → k < hi → w'.heap[k]? = w.heap[k]?) (h1 : lo' ≤ lo) (h2 : hi ≤ hi') : EvH lo' hi' w' V l := by
  rcases h with h | ⟨e, g, rfl, rfl, ha, hb, hg⟩
  · exact .inl h
  · exact .inr ⟨e, g, rfl, rfl, by omega, by omega, (hk g ha hb).trans hg⟩
theorem EvH.oneCell {lo hi : Nat} {w : World} {V : Value} {l : List Ev} (h : EvH lo hi w V l) : V.oneCell' = true := by
  rcases h with ⟨_, rfl⟩ | ⟨e, g, _, rfl, _⟩ <;> rfl
/-- Outcome k of the row in block g. -/
def OcAt (lo hi : Nat) (w : World) (g o k : Nat) (x : Oc) : Prop := ∃ V, w.cell? ⟨g, o + k * 3, none⟩ = some (.int .i64 x.code) ∧ w.cell? ⟨g, o + k * 3 + 1, none⟩ = some (.int .i64 x.ver) ∧ w.cell? ⟨g, o + k * 3 + 2, none⟩ = some V ∧ EvH lo hi w V x.evs
/-- A slice that reads as these outcomes, in blocks from lo up to hi. -/
def OcsB (lo hi : Nat) (w : World) (v : Value) (os : List Oc) : Prop :=
  ∃ A c, v = .slice A os.length c ∧ os.length ≤ c ∧ c ≤ maxLen ∧ (A = none → os.length = 0 ∧ c = 0) ∧ (0 < os.length → ∃ g, A = some ⟨g, 0, none⟩ ∧ lo ≤ g ∧ g < hi ∧ ∀ k (hk : k < os.length), OcAt lo hi w g 0 k os[k])
theorem OcAt.keep {lo hi lo' hi' : Nat} {w w' : World} {g o k : Nat} {x : Oc} (h : OcAt lo hi w g o k x) (hg : w'.heap[g]? = w.heap[g]?) (hk : ∀ k, lo ≤ k → k < hi → w'.heap[k]? = w.heap[k]?) (h1 : lo' ≤ lo) (h2 : hi ≤ hi') : OcAt lo' hi' w' g o k x := by
  obtain ⟨V, a, b, c, d⟩ := h
  exact ⟨V, by simpa [World.cell?, hg] using a, by simpa [World.cell?, hg] using b, by simpa [World.cell?, hg] using c, d.keep hk h1 h2⟩
theorem OcsB.keep {lo hi lo' hi' : Nat} {w w' : World} {v : Value} {os : List Oc} (h : OcsB lo hi w v os) (hk : ∀ k, lo ≤ k → k < hi → w'.heap[k]? = w.heap[k]?) (h1 : lo' ≤ lo) (h2 : hi ≤ hi') : OcsB lo' hi' w' v os := by
  obtain ⟨A, c, ha, hb, hc, hd, he⟩ := h
  refine ⟨A, c, ha, hb, hc, hd, fun h0 => ?_⟩
  obtain ⟨g, hA, hg1, hg2, hx⟩ := he h0
  exact ⟨g, hA, by omega, by omega, fun k hk' => (hx k hk').keep (hk g hg1 hg2) hk h1 h2⟩
theorem OcsB.below {lo hi B : Nat} {w w' : World} {v : Value} {os : List Oc} (h : OcsB lo hi w v os) (hb : Below B w w') (hB : hi ≤ B) : OcsB lo hi w' v os :=
  h.keep (fun k _ hk => hb.block k (by omega)) (Nat.le_refl _) (Nat.le_refl _)
theorem OcsB.take {lo hi : Nat} {w : World} {A : Option Addr} {n c : Nat} {os : List Oc} (h : OcsB lo hi w (.slice A n c) os) {i : Nat} (hi' : i ≤ os.length) : OcsB lo hi w (.slice A i c) (os.take i) := by
  obtain ⟨A', c', hv, h2, h3, h4, h5⟩ := h
  injection hv with e1 _ e3
  subst e1 e3
  have hl : (os.take i).length = i := by simp [Nat.min_eq_left hi']
  refine ⟨A, c, by rw [hl], by omega, h3, fun e => ?_, fun h0 => ?_⟩
  · have := h4 e; omega
  · obtain ⟨g, hA, hg1, hg2, hx⟩ := h5 (by omega)
    refine ⟨g, hA, hg1, hg2, fun k hk => ?_⟩
    have := hx k (by omega)
    simpa using this
theorem OcsB.len {lo hi : Nat} {w : World} {v : Value} {os : List Oc} (h : OcsB lo hi w v os) : ∃ A c, v = .slice A os.length c ∧ os.length ≤ c ∧ c ≤ maxLen ∧ (A = none → os.length = 0 ∧ c = 0) := by
  obtain ⟨A, c, h1, h2, h3, h4, _⟩ := h
  exact ⟨A, c, h1, h2, h3, h4⟩
theorem OcsB.cells {lo hi : Nat} {w : World} {v : Value} {os : List Oc} (h : OcsB lo hi w v os) {k : Nat} (hk : k < os.length) : ∃ g c, v = .slice (some ⟨g, 0, none⟩) os.length c ∧ lo ≤ g ∧ g < hi ∧ OcAt lo hi w g 0 k os[k] := by
  obtain ⟨A, c, rfl, _, _, _, h5⟩ := h
  obtain ⟨g, rfl, h1, h2, hx⟩ := h5 (by omega)
  exact ⟨g, c, rfl, h1, h2, hx k hk⟩
end Go.Proofs.YtafhjlfnhgkcoaaDoor
