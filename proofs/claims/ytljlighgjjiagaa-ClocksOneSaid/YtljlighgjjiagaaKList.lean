/-
  Clocks, and lists of where they were, in memory.
-/
import Derived.Test.YtljlighgjjiagaaKAll
namespace Go.Proofs.Ytljlighgjjiagaa
open Go.RowKit
/-- A list of ints in new memory, clocks beside it. -/
def OnL (w0 : World) (c : Nat) (C : Clo.Cs) (ls : List (Value × List Int)) (w : World) : Prop := On w0 c C w ∧ ∀ p ∈ ls, Ints w p.1 p.2 ∧ ∀ k, p.1.ownBlock = some k → k ≠ c
section
variable {w0 w w' : World} {c : Nat} {C : Clo.Cs} {ls : List (Value × List Int)}
theorem ints_foot {v : Value} {l : List Int} {S : Nat → Prop} (h : Ints w v l) (hf : Foot S w w') (hn : ∀ k, v.ownBlock = some k → ¬ S k) : Ints w' v l := by
  obtain ⟨A, cv, rfl, h1, h2, h3, h4⟩ := h
  refine ⟨A, cv, rfl, h1, h2, h3, fun h0 => ?_⟩
  obtain ⟨b, off, rfl, hb', hc⟩ := h4 h0
  exact ⟨b, off, rfl, Nat.lt_of_lt_of_le hb' hf.size, fun j hj => (hf.cell (p := ⟨b, off + j, none⟩) hb' (hn b rfl)).trans (hc j hj)⟩
theorem l_tick (s : Int) (h : Hid (OnL w0 c C ls w)) {C' : Clo.Cs} {r : Int} (hR : Hid (Clo.ticked C s = (C', r))) : Calls Try.prog 11 #[.pointer (some ⟨c, 0, none⟩), .int .i64 s] w fun e w' => e = .returned (.int .i64 r) ∧ Hid (OnL w0 c C' ls w') := by
  obtain ⟨⟨h1, h2, h3⟩, h4⟩ := h.out
  refine (tick_any s h1).mono ?_
  rw [hR.out]
  rintro e w' ⟨g1, g2, g3⟩
  exact ⟨g1, ⟨g2, h2, h3.trans (g3.below fun k hk => ⟨Nat.lt_of_lt_of_le hk h3.size, fun e => by omega⟩)⟩, fun p hp => ⟨ints_foot (h4 p hp).1 g3 fun k e => (h4 p hp).2 k e, (h4 p hp).2⟩⟩
theorem OnL.below (h : OnL w0 c C ls w) (hb : Below w.heap.size w w') : OnL w0 c C ls w' := ⟨h.1.below hb, fun p hp => ⟨(h.2 p hp).1.below hb, (h.2 p hp).2⟩⟩
theorem l_skew (h : Hid (OnL w0 c C ls w)) {k : Int} (hR : Hid (Clo.skew C.l = k)) : Calls Try.prog 13 #[.pointer (some ⟨c, 0, none⟩)] w fun e w' => e = .returned (.int .i64 k) ∧ Hid (OnL w0 c C ls w') := by
  refine (askew_any h.out.1.1).mono ?_
  rw [hR.out]
  rintro e w' ⟨h1, m, rfl⟩
  exact ⟨h1, h.out.below ⟨rfl, rfl, rfl, Nat.le_refl _, fun _ _ => rfl⟩⟩
theorem l_worst (h : Hid (OnL w0 c C ls w)) {k : Int} (hR : Hid (C.w = k)) : Calls Try.prog 15 #[.pointer (some ⟨c, 0, none⟩)] w fun e w' => e = .returned (.int .i64 k) ∧ w = w' := by
  refine (worst_any h.out.1.1).mono ?_
  rw [hR.out]
  exact fun _ _ h => h
theorem l_all (n : Nat) (h : Hid (OnL w0 c C ls w)) (hn : Hid (C.l.length = n)) : Calls Try.prog 18 #[.pointer (some ⟨c, 0, none⟩), .int .i64 (n : Int)] w fun e w' => ∃ A cv, e = .returned (.tuple #[.slice A n cv, .bool true]) ∧ Hid (OnL w0 c C ((.slice A n cv, C.l) :: ls) w') := by
  rw [← hn.out]
  refine (all_any h.out.1.1).mono ?_
  rintro e w' ⟨A, cv, rfl, h1, h2⟩
  have hlt := h.out.1.1.lt
  refine ⟨A, cv, rfl, (h.out.below h2.out).1, fun p hp => ?_⟩
  rcases List.mem_cons.1 hp with rfl | hp
  · exact ⟨Ints.own h1.out, fun k e => by have := (World.ownsRow.lt h1.out k e).1; omega⟩
  · exact (h.out.below h2.out).2 p hp
theorem l_at (h : OnL w0 c C ls w) {A : Option Addr} {n cv : Nat} {l : List Int} (hp : (Value.slice A n cv, l) ∈ ls) {i : Nat} (hi : i < l.length) : ∃ b off, A = some ⟨b, off, none⟩ ∧ n = l.length ∧ w.cell? ⟨b, off + i, none⟩ = some (.int .i64 (l.getD i 0)) := by
  obtain ⟨A', c', hv, h1, _, _, h2⟩ := (h.2 _ hp).1
  injection hv with e1 e2 e3
  simp only at e2 h1 h2
  subst e1 e2 e3
  obtain ⟨b, off, rfl, _, hc⟩ := h2 (by omega)
  exact ⟨b, off, rfl, rfl, hc i hi⟩
end
theorem l_row {w0 w : World} {c : Nat} {C : Clo.Cs} {ls : List (Value × List Int)} (h : OnL w0 c C ls w) {A : Option Addr} {n cv : Nat} {l : List Int} (hp : (Value.slice A n cv, l) ∈ ls) (h0 : 0 < l.length) : ∃ b off, A = some ⟨b, off, none⟩ ∧ ∀ i, i < l.length → w.cell? ⟨b, off + i, none⟩ = some (.int .i64 (l.getD i 0)) := by
  obtain ⟨A', c', hv, h1, _, _, h2⟩ := (h.2 _ hp).1
  injection hv with e1 e2 e3
  simp only at e2 h1 h2
  subst e1 e2 e3
  obtain ⟨b, off, rfl, _, hc⟩ := h2 h0
  exact ⟨b, off, rfl, hc⟩
theorem l_new (n : Nat) (h1 : 2 ≤ n) (h2 : n ≤ 7) (w : World) : Calls Try.prog 8 #[.int .i64 (n : Int)] w fun e w' => ∃ c, e = .returned (.tuple #[.pointer (some ⟨c, 0, none⟩), .int .i64 0]) ∧ Hid (OnL w c (Clo.new n) [] w') :=
  (on_new n h1 h2 w).mono fun e w' ⟨c, h1, h2⟩ => ⟨c, h1, h2.out, fun _ hp => by cases hp⟩
end Go.Proofs.Ytljlighgjjiagaa
