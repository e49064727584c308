/-
  A net, and two rows of ints of one's own beside it.
-/
import Derived.Test.YtlejlmlgcehjiaaNNone
namespace Go.Proofs.Ytlejlmlgcehjiaa
open Go.RowKit
/-- A row of ints of one's own. -/
def IOwn (w : World) (base : Nat) (v : Value) (l : List Int) : Prop := w.ownsRow base 3 1 v l.length (l.map (Value.int .i64))
theorem Try.info_lint : (Try.prog.info? 3).map (fun i => (i.zero, i.size, i.bytes)) = some (some (.int .i64 0), 1, 8) := by kernel_rfl
structure OnR (w0 : World) (n : Nat) (M : List Net.Ml) (v4 : Value) (l4 : List Int) (v6 : Value) (l6 : List Int) (w : World) : Prop where
  net : ∃ S, On w0 w S n M w ∧ (∀ k, S k → k < w.heap.size) ∧ (∀ k, v4.ownBlock = some k → ¬ S k) ∧ ∀ k, v6.ownBlock = some k → ¬ S k
  r4 : IOwn w w0.heap.size v4 l4
  r6 : IOwn w w0.heap.size v6 l6
  ap : ∀ k, v4.ownBlock = some k → v6.ownBlock ≠ some k
section
variable {w0 w w' : World} {n : Nat} {M M' : List Net.Ml} {v4 v6 : Value} {l4 l6 : List Int} {S T : Nat → Prop}
theorem On.skipNow (h : On w0 w S n M w) (hlt : ∀ k, S k → k < w.heap.size) (hT : ∀ k, T k → w0.heap.size ≤ k ∧ ¬ S k) (hf : Foot T w w') : On w0 w' S n M w' := by
  have hbel := h.bel
  obtain ⟨⟨S', ⟨v, ms, h1⟩, _, h2⟩, h3, _⟩ := h
  have hS : ∀ k, S' k → S k := fun k hk => (h2 k hk).elim id fun e => by have := h1.lt k hk; omega
  have h5 : NetAt HN w n M S v ms := ⟨h1.head, h1.mails, h1.offn, h1.ml, h1.few, hS _ h1.inn, fun k hk => hS k (h1.inS k hk), hlt⟩
  exact ⟨⟨S, ⟨v, ms, h5.foot hf fun k hk e => (hT k e).2 hk⟩, Foot.refl _ _, fun _ e => .inl e⟩, h3, hbel.trans (hf.below fun k hk => ⟨Nat.lt_of_lt_of_le hk hbel.size, fun e => by have := (hT k e).1; omega⟩)⟩
theorem OnR.swap (h : OnR w0 n M v4 l4 v6 l6 w) : OnR w0 n M v6 l6 v4 l4 w := by
  obtain ⟨⟨S, h1, h2, h3, h4⟩, h5, h6, h7⟩ := h
  exact ⟨⟨S, h1, h2, h4, h3⟩, h6, h5, fun k e1 e2 => h7 k e2 e1⟩
theorem OnR.bel (h : OnR w0 n M v4 l4 v6 l6 w) : Below w0.heap.size w0 w := by
  obtain ⟨⟨S, h1, _⟩, _⟩ := h
  exact h1.bel
theorem OnR.few (h : OnR w0 n M v4 l4 v6 l6 w) : M.length ≤ 512 := by
  obtain ⟨⟨S, h1, _⟩, _⟩ := h
  exact h1.few
theorem OnR.below (h : OnR w0 n M v4 l4 v6 l6 w) (hb : Below w.heap.size w w') : OnR w0 n M v4 l4 v6 l6 w' := by
  obtain ⟨⟨S, h1, h2, h3, h4⟩, h5, h6, h7⟩ := h
  have hf : Foot (fun _ => False) w w' := below_foot hb
  exact ⟨⟨S, h1.rebase h2 hb, fun k hk => Nat.lt_of_lt_of_le (h2 k hk) hb.size, h3, h4⟩, owns_foot h5 hf fun _ _ e => e, owns_foot h6 hf fun _ _ e => e, h7⟩
theorem OnR.drewN (h : OnR w0 n M v4 l4 v6 l6 w) (m : Nat) : OnR w0 n M v4 l4 v6 l6 (w.drewN m) := h.below ⟨rfl, rfl, rfl, Nat.le_refl _, fun _ _ => rfl⟩
theorem onr_len (h : Hid (OnR w0 n M v4 l4 v6 l6 w)) {L : Nat} (hL : Hid (M.length = L)) : Calls Try.prog 15 #[.pointer (some ⟨n, 0, none⟩)] w fun e w' => e = .returned (.int .i64 (L : Int)) ∧ w = w' := by
  obtain ⟨⟨S, h1, _⟩, _⟩ := h.out
  exact on_len' (Lib.hid h1) hL
theorem onr_all (h : Hid (OnR w0 n M v4 l4 v6 l6 w)) : Calls Try.prog 17 #[.pointer (some ⟨n, 0, none⟩)] w (AllPost M w) := by
  obtain ⟨⟨S, h1, _⟩, _⟩ := h.out
  exact on_all (Lib.hid h1)
/-- An act done with the net: the rows, and a block of new memory, are as they were. -/
theorem onr_does {wr : World} (x : AV) (hk0 : 0 ≤ x.k) (h : OnR w0 n M v4 l4 v6 l6 wr) (hB : Below wr.heap.size wr w) {b : Nat} {o : Obj} (hb : wr.heap.size ≤ b) (ho : w.heap[b]? = some o) (hE : Ents w x.v x.es) (hl : x.es.length ≤ 4000) {m : Net.Ml} {r : Bool} (hR : Net.act M x.k x.ml x.i = (M', m, r)) :
    Calls Try.prog 11 #[.pointer (some ⟨n, 0, none⟩), .agg (acells x).toArray] w fun e w' => ∃ A c, e = .returned (.tuple #[.agg (mcells m.h (.slice A m.es.length c)).toArray, .bool r]) ∧ Hid (OnR w0 n M' v4 l4 v6 l6 w') ∧ Hid (w'.heap[b]? = some o) := by
  obtain ⟨⟨S, h1, h2, h3, h4⟩, h5, h6, h7⟩ := h
  have hO := h1.rebase h2 hB
  refine (on_does x hk0 (Lib.hid hO) hE hl hR).mono ?_
  rintro e w' ⟨A, c, S', rfl, g1, g2, _, g4⟩
  have hf : Foot (fun _ => False) wr w := below_foot hB
  have h5' := owns_foot h5 hf fun _ _ e => e
  have h6' := owns_foot h6 hf fun _ _ e => e
  refine ⟨A, c, rfl, ⟨⟨S', g1.out, g4.out, fun k hk => (g2.out.off (World.ownsRow.lt h5' k hk).2 (h3 k hk)).1, fun k hk => (g2.out.off (World.ownsRow.lt h6' k hk).2 (h4 k hk)).1⟩, owns_foot h5' g2.out.1 h3, owns_foot h6' g2.out.1 h4, h7⟩, ?_⟩
  exact (g2.out.off (lt_of_block ho) fun e => by have := h2 b e; omega).2.trans ho
/-- An append of one number to the first row. -/
theorem onr_append (y : Int) (h : OnR w0 n M v4 l4 v6 l6 w) (hl : l4.length ≤ 1000) :
    ∃ A c w', Hid ((Builtin.append_ #[54, 54] 54 #[v4, .slice (some ⟨w.heap.size, 0, none⟩) 1 1]).run Try.prog (w.alloc (.cells #[.int .i64 y] 3)) = .ok (.slice A (l4.length + 1) c) w') ∧ Hid (OnR w0 n M (.slice A (l4.length + 1) c) (l4 ++ [y]) v6 l6 w') := by
  obtain ⟨i0, hi, hz0, hz1, hz2⟩ := info_parts Try.info_lint
  have h' := h.below (below_alloc1 w (.cells #[.int .i64 y] 3))
  have hlt4 := fun k hk => World.ownsRow.lt h.r4 k hk
  obtain ⟨⟨S, h1, h2, h3, h4⟩, h5, h6, h7⟩ := h'
  obtain ⟨v', w', hr, hg⟩ := run_append_grew (P := Try.prog) _ 54 54 3 i0 _ 1 8 Try.underlying54 hi hz0 hz1 hz2 rfl (by decide) v4 _ _ (own_base h5 fun k _ => Nat.zero_le k) ⟨w.heap.size, 0, none⟩ 1 1 [.int .i64 y] rfl (cell_one_new w _ _) (fun u hu => by simp at hu; subst hu; rfl) (by unfold maxLen; omega) (by omega)
  obtain ⟨A, c, rfl, _⟩ := own_is_slice hg.1
  have hw0 := h1.bel.size
  have hT : ∀ k, v4.ownBlock = some k → w0.heap.size ≤ k ∧ ¬ S k := fun k hk => ⟨(World.ownsRow.lt h5 k hk).1, h3 k hk⟩
  have hon := h1.skipNow h2 hT hg.2.1
  refine ⟨A, c, w', hr, ⟨⟨S, hon, fun k hk => Nat.lt_of_lt_of_le (h2 k hk) hg.2.1.size, fun k hk => ?_, h4⟩, ?_, owns_foot h6 hg.2.1 fun k e1 e2 => h7 k e2 e1, fun k e1 e2 => ?_⟩⟩
  · rcases hg.2.2 k hk with e | e
    · exact h3 k e
    · exact fun hs => by have := h2 k hs; omega
  · have := own_base (base' := w0.heap.size) hg.1 fun k hk => by
      rcases hg.2.2 k hk with e | e
      · exact (World.ownsRow.lt h5 k e).1
      · omega
    unfold IOwn
    rw [List.length_append, List.map_append]
    exact this
  · rcases hg.2.2 k e1 with e | e
    · exact h7 k e e2
    · have := (World.ownsRow.lt h6 k e2).2; omega
/-- A part of a row of ints, appended to a row of one's own that lies elsewhere. -/
theorem append_part {W : World} {u : Value} {k m c : Nat} {ys zs : List Value} {a : Addr} (ho : W.ownsRow 0 3 1 u k ys) (hk : k ≤ 1000) (hm : zs.length = m) (hm5 : m ≤ 1000) (hz : ∀ j z, zs[j]? = some z → W.cell? (a.add j) = some z) (h1 : ∀ z ∈ zs, z.oneCell' = true) :
    ∃ A c' W', (Builtin.append_ #[54, 54] 54 #[u, .slice (some a) m c]).run Try.prog W = .ok (.slice A (k + m) c') W' ∧ W'.ownsRow 0 3 1 (.slice A (k + m) c') (k + m) (ys ++ zs) ∧ Foot (fun j => u.ownBlock = some j) W W' ∧ ∀ j, (Value.slice A (k + m) c').ownBlock = some j → u.ownBlock = some j ∨ W.heap.size ≤ j := by
  obtain ⟨i0, hi, hz0, hz1, hz2⟩ := info_parts Try.info_lint
  obtain ⟨v', w', hr, hg⟩ := run_append_grew (P := Try.prog) W 54 54 3 i0 _ 1 8 Try.underlying54 hi hz0 hz1 hz2 rfl (by decide) u k ys ho a m c zs (by rw [hm]; omega) hz h1 (by unfold maxLen; omega) (by omega)
  obtain ⟨A, c', rfl, _⟩ := own_is_slice hg.1
  exact ⟨A, c', w', hr, hg.1, hg.2.1, hg.2.2⟩
theorem ints_one (l : List Int) : ∀ u ∈ l.map (Value.int .i64), u.oneCell' = true := by
  intro u hu
  obtain ⟨x, _, rfl⟩ := List.mem_map.1 hu
  rfl
/-- One number less: the two parts of the row, in a row of new memory. -/
theorem onr_cut {i g c : Nat} (h : OnR w0 n M (.slice (some ⟨g, 0, none⟩) l4.length c) l4 v6 l6 w) (hi : i < l4.length) (hl : l4.length ≤ 1000) {a2 : Addr} (ha : a2 = ⟨g, i + 1, none⟩ ∨ l4.length = i + 1) (c1 c2 : Nat) :
    ∃ A1 d1 W2 A2 d2 W3, Hid ((Builtin.append_ #[54, 54] 54 #[.slice (some ⟨w.heap.size, 0, none⟩) 0 0, .slice (some ⟨g, 0, none⟩) i c1]).run Try.prog (w.alloc (.cells #[] 3)) = .ok (.slice A1 i d1) W2) ∧
      Hid ((Builtin.append_ #[54, 54] 54 #[.slice A1 i d1, .slice (some a2) (l4.length - (i + 1)) c2]).run Try.prog W2 = .ok (.slice A2 (l4.length - 1) d2) W3) ∧ Hid (OnR w0 n M (.slice A2 (l4.length - 1) d2) (l4.eraseIdx i) v6 l6 W3) := by
  have hgl := (World.ownsRow.lt h.r4 g rfl).2
  have hcell : ∀ j, j < l4.length → w.cell? ⟨g, j, none⟩ = (l4.map (Value.int .i64))[j]? := fun j hj => World.ownsRow.cellAt h.r4 j (by omega)
  have hba := below_alloc1 w (.cells #[] 3)
  have e0 : (w.alloc (.cells #[] 3)).ownsRow 0 3 1 (.slice (some ⟨w.heap.size, 0, none⟩) 0 0) 0 [] := empty_own 3 (Nat.zero_le _)
  obtain ⟨A1, d1, W2, r1, o1, f1, k1⟩ := append_part (c := c1) (a := ⟨g, 0, none⟩) (zs := (l4.map (Value.int .i64)).take i) (m := i) e0 (by omega) (by rw [List.length_take, List.length_map]; omega) (by omega) (fun j z hz => by
    rw [List.getElem?_take] at hz
    split at hz
    · rw [Addr.add_lit, Nat.zero_add, hba.cell (p := ⟨g, j, none⟩) hgl, hcell j (by omega)]; exact hz
    · cases hz) (fun z hz => ints_one l4 z (List.mem_of_mem_take hz))
  rw [Nat.zero_add] at r1 o1 k1
  rw [List.nil_append] at o1
  have hb2 : Below w.heap.size w W2 := hba.trans (f1.below fun k hk => ⟨Nat.lt_of_lt_of_le hk hba.size, fun e => by have h2 : w.heap.size = k := Option.some.inj e; omega⟩)
  have hk1 : ∀ j, (Value.slice A1 i d1).ownBlock = some j → w.heap.size ≤ j := fun j hj => by
    rcases k1 j hj with e | e
    · have h2 : w.heap.size = j := Option.some.inj e
      omega
    · have := hba.size; omega
  obtain ⟨A2, d2, W3, r2, o2, f2, k2⟩ := append_part (c := c2) (a := a2) (zs := (l4.map (Value.int .i64)).drop (i + 1)) (m := l4.length - (i + 1)) o1 (by omega) (by rw [List.length_drop, List.length_map]) (by omega) (fun j z hz => by
    rw [List.getElem?_drop] at hz
    have hj := (List.getElem?_eq_some_iff.1 hz).1
    rw [List.length_map] at hj
    rcases ha with rfl | ha
    · rw [Addr.add_lit, hb2.cell (p := ⟨g, i + 1 + j, none⟩) hgl, hcell _ (by omega)]; exact hz
    · omega) (fun z hz => ints_one l4 z (List.mem_of_mem_drop hz))
  rw [show i + (l4.length - (i + 1)) = l4.length - 1 by omega] at r2 o2 k2
  have hb3 : Below w.heap.size w W3 := hb2.trans (f2.below fun k hk => ⟨Nat.lt_of_lt_of_le hk hb2.size, fun e => by have := hk1 k e; omega⟩)
  have hk2 : ∀ j, (Value.slice A2 (l4.length - 1) d2).ownBlock = some j → w.heap.size ≤ j := fun j hj => by
    rcases k2 j hj with e | e
    · exact hk1 j e
    · have := hb2.size; omega
  have hw0 := h.bel.size
  have h6lt := fun k hk => (World.ownsRow.lt h.r6 k hk).2
  obtain ⟨⟨S, h1, h2, h3, h4⟩, h5, h6, h7⟩ := h
  refine ⟨A1, d1, W2, A2, d2, W3, r1, r2, ⟨⟨S, h1.rebase h2 hb3, fun k hk => Nat.lt_of_lt_of_le (h2 k hk) hb3.size, fun k hk hs => by have := hk2 k hk; have := h2 k hs; omega, h4⟩, ?_, owns_foot h6 (below_foot hb3 : Foot (fun _ => False) w W3) fun _ _ e => e, fun k e1 e2 => by have := hk2 k e1; have := h6lt k e2; omega⟩⟩
  have hb := own_base (base' := w0.heap.size) o2 fun k hk => by have := hk2 k hk; omega
  unfold IOwn
  rw [List.length_eraseIdx_of_lt hi, List.eraseIdx_eq_take_drop_succ, List.map_append, List.map_take, List.map_drop]
  exact hb
end
end Go.Proofs.Ytlejlmlgcehjiaa
