/-
  The program's net beside the document's.
-/
import Derived.Test.YtlejlmlgcehjiaaNRDid
import Derived.Test.YtlejlmlgcehjiaaNOpens
import Derived.Test.YtlejlmlgcehjiaaNFull
namespace Go.Proofs.Ytlejlmlgcehjiaa
open Go.RowKit
/-- Two nets, made behind w0: the program's at n has M, the document's at r has N; the blocks U lie off both, behind w0 too. -/
def Two (w0 : World) (n r : Nat) (M N : List Net.Ml) (U : Nat → Prop) (w : World) : Prop :=
  ∃ S T, IsNet HN w n M S ∧ IsNet HR w r N T ∧ (∀ k, S k → w0.heap.size ≤ k ∧ ¬ T k) ∧ (∀ k, T k → w0.heap.size ≤ k) ∧ Below w0.heap.size w0 w ∧ ∀ k, U k → w0.heap.size ≤ k ∧ k < w.heap.size ∧ ¬ S k ∧ ¬ T k
section
variable {w0 w w' : World} {n r : Nat} {M N M' : List Net.Ml} {U U' V : Nat → Prop}
theorem Two.bel (h : Two w0 n r M N U w) : Below w0.heap.size w0 w := by
  obtain ⟨S, T, _, _, _, _, h, _⟩ := h
  exact h
theorem Two.more (h : Two w0 n r M N U w) (hb : Below w.heap.size w w') (hU : ∀ k, U' k → U k ∨ (w.heap.size ≤ k ∧ k < w'.heap.size)) : Two w0 n r M N U' w' := by
  obtain ⟨S, T, h1, h2, h3, h4, h5, h6⟩ := h
  refine ⟨S, T, h1.below hb, h2.below hb, h3, h4, h5.trans (hb.mono h5.size), fun k hk => ?_⟩
  rcases hU k hk with e | ⟨e1, e2⟩
  · obtain ⟨q1, q2, q3⟩ := h6 k e
    exact ⟨q1, Nat.lt_of_lt_of_le q2 hb.size, q3⟩
  · exact ⟨Nat.le_trans h5.size e1, e2, fun e => by have := h1.lt e; omega, fun e => by have := h2.lt e; omega⟩
theorem Two.below (h : Two w0 n r M N U w) (hb : Below w.heap.size w w') : Two w0 n r M N U w' := h.more hb fun _ e => .inl e
theorem Two.less (h : Two w0 n r M N U w) (hU : ∀ k, U' k → U k) : Two w0 n r M N U' w := h.more (Below.refl _ _) fun k e => .inl (hU k e)
/-- What lies off both is written. -/
theorem Two.write (h : Two w0 n r M N U w) (hf : Foot V w w') (hV : ∀ k, V k → U k) : Two w0 n r M N U w' := by
  obtain ⟨S, T, h1, h2, h3, h4, h5, h6⟩ := h
  exact ⟨S, T, h1.foot hf fun k hk e => (h6 k (hV k e)).2.2.1 hk, h2.foot hf fun k hk e => (h6 k (hV k e)).2.2.2 hk, h3, h4, h5.trans (hf.below fun k hk => ⟨Nat.lt_of_lt_of_le hk h5.size, fun e => by have := (h6 k (hV k e)).1; omega⟩), fun k hk => by
    obtain ⟨q1, q2, q3⟩ := h6 k hk
    exact ⟨q1, Nat.lt_of_lt_of_le q2 hf.size, q3⟩⟩
/-- What 'does' tells, and leaves. -/
def DoesPost (w0 w : World) (n r : Nat) (N : List Net.Ml) (U : Nat → Prop) (R : List Net.Ml × Net.Ml × Bool) (e : Ending) (w' : World) : Prop :=
  ∃ A c, e = .returned (.tuple #[.agg (mcells R.2.1.h (.slice A R.2.1.es.length c)).toArray, .bool R.2.2]) ∧ Hid (Two w0 n r R.1 N (fun k => U k ∨ (Value.slice A R.2.1.es.length c).ownBlock = some k) w') ∧ Hid (EOwn w' 0 (.slice A R.2.1.es.length c) R.2.1.es) ∧
    Hid (∀ k, U k → w'.heap[k]? = w.heap[k]? ∧ (Value.slice A R.2.1.es.length c).ownBlock ≠ some k) ∧ w.heap.size ≤ w'.heap.size
theorem two_does (x : AV) (hk0 : 0 ≤ x.k) (h : Hid (Two w0 n r M N U w)) (hE : Ents w x.v x.es) (hl : x.es.length ≤ 4000) :
    Calls Try.prog 11 #[.pointer (some ⟨n, 0, none⟩), .agg (acells x).toArray] w (DoesPost w0 w n r N U (Net.act M x.k x.ml x.i)) := by
  obtain ⟨S, T, h1, h2, h3, h4, h5, h6⟩ := h.out
  refine (does_told x hk0 h1 hE hl).mono fun e w' hT => ?_
  generalize Net.act M x.k x.ml x.i = R at *
  obtain ⟨A, c, rfl, hT⟩ := hT
  obtain ⟨S', t1, t2, t3, t4, t5⟩ := hT.out
  have hold : ∀ k, S k ∨ w.heap.size ≤ k → w0.heap.size ≤ k ∧ ¬ T k := fun k e => e.elim (h3 k) fun e => ⟨Nat.le_trans h5.size e, fun e2 => by have := h2.lt e2; omega⟩
  have hnew : ∀ k, U k → ¬ (S k ∨ w.heap.size ≤ k) := fun k hk e => by
    obtain ⟨q1, q2, q3, q4⟩ := h6 k hk
    exact e.elim q3 fun e => by omega
  refine ⟨A, c, rfl, ⟨S', T, t1, h2.foot t2 fun k hk e => (h3 k e).2 hk, fun k hk => hold k (t3 k hk), h4, h5.trans (t2.below fun k hk => ⟨Nat.lt_of_lt_of_le hk h5.size, fun e => by have := (h3 k e).1; omega⟩), fun k hk => ?_⟩, t4, fun k hk => ⟨t2.block k (h6 k hk).2.1 (h6 k hk).2.2.1, fun e => hnew k hk (t5 k e).2⟩, t2.size⟩
  rcases hk with hk | hk
  · obtain ⟨q1, q2, q3, q4⟩ := h6 k hk
    exact ⟨q1, Nat.lt_of_lt_of_le q2 t2.size, fun e => hnew k hk (t3 k e), q4⟩
  · have hh := hold k (t5 k hk).2
    exact ⟨hh.1, (t4.lt hk).2, (t5 k hk).1, hh.2⟩
/-- What 'did' tells, and leaves. -/
def DidPost (w0 w : World) (n r : Nat) (M : List Net.Ml) (U : Nat → Prop) (R : List Net.Ml × Net.Ml × Bool) (e : Ending) (w' : World) : Prop :=
  ∃ A c, e = .returned (.tuple #[.agg (mcells R.2.1.h (.slice A R.2.1.es.length c)).toArray, .bool R.2.2]) ∧ Hid (Two w0 n r M R.1 U w') ∧ Hid (Ents w' (.slice A R.2.1.es.length c) R.2.1.es) ∧ Hid (∀ k, U k → w'.heap[k]? = w.heap[k]?) ∧ w.heap.size ≤ w'.heap.size
theorem two_did (x : AV) (hk0 : 0 ≤ x.k) (h : Hid (Two w0 n r M N U w)) (hE : Ents w x.v x.es) (hl : x.es.length ≤ 4000) :
    Calls Try.prog 12 #[.pointer (some ⟨r, 0, none⟩), .agg (acells x).toArray] w (DidPost w0 w n r M U (Net.act N x.k x.ml x.i)) := by
  obtain ⟨S, T, h1, h2, h3, h4, h5, h6⟩ := h.out
  refine (did_any x hk0 h2 hE hl).mono fun e w' hT => ?_
  generalize Net.act N x.k x.ml x.i = R at *
  obtain ⟨A, c, T', rfl, g1, g2, g3, g4, g5⟩ := hT
  have t2 := g2.out
  have hnew : ∀ k, U k → ¬ (T k ∨ w.heap.size ≤ k) := fun k hk e => by
    obtain ⟨q1, q2, q3, q4⟩ := h6 k hk
    exact e.elim q4 fun e => by omega
  refine ⟨A, c, rfl, ⟨S, T', h1.foot t2 fun k hk e => (h3 k hk).2 e, g1.out, fun k hk => ⟨(h3 k hk).1, fun e => (g3.out k e).elim (h3 k hk).2 fun e => by have := h1.lt hk; omega⟩, fun k hk => (g3.out k hk).elim (h4 k) fun e => Nat.le_trans h5.size e, h5.trans (t2.below fun k hk => ⟨Nat.lt_of_lt_of_le hk h5.size, fun e => by have := h4 k e; omega⟩), fun k hk => ?_⟩, g4, fun k hk => t2.block k (h6 k hk).2.1 (h6 k hk).2.2.2, t2.size⟩
  obtain ⟨q1, q2, q3, q4⟩ := h6 k hk
  exact ⟨q1, Nat.lt_of_lt_of_le q2 t2.size, q3, fun e => hnew k hk (g3.out k e)⟩
theorem two_len (h : Hid (Two w0 n r M N U w)) : Calls Try.prog 15 #[.pointer (some ⟨n, 0, none⟩)] w fun e w' => e = .returned (.int .i64 (M.length : Int)) ∧ w = w' := by
  obtain ⟨S, T, h1, _⟩ := h.out
  exact len_any h1
theorem two_all (h : Hid (Two w0 n r M N U w)) : Calls Try.prog 17 #[.pointer (some ⟨n, 0, none⟩)] w (AllPost M w) := by
  obtain ⟨S, T, h1, _⟩ := h.out
  exact all_any h1
/-- The document's list. -/
theorem Two.list (h : Two w0 n r M N U w) : ∃ v ms, w.cell? ⟨r, 0, none⟩ = some v ∧ w.frozen? ⟨r, 0, none⟩ = false ∧ MRead w v ms ∧ ms.map MM.ml = N ∧ ∃ A c, v = .slice A N.length c := by
  obtain ⟨S, T, _, ⟨v, ms, h2⟩, _⟩ := h
  obtain ⟨k1, kz⟩ := hr_cells h2.head
  obtain ⟨A, c, e, _⟩ := h2.mails.len
  exact ⟨v, ms, k1, kz 0, h2.mails.read, h2.ml, A, c, by rw [e, h2.len]⟩
/-- Both made: the document's in a box of its own. -/
theorem Two.made {S : Nat → Prop} (h : On w0 w S n [] w) (hb : Below w0.heap.size w0 w) : Two w0 n w.heap.size [] [] (fun _ => False) (w.alloc (.cells #[.slice none 0 0] 29)) := by
  have hb1 := below_alloc1 w (.cells #[.slice none 0 0] 29)
  obtain ⟨⟨S', h1, hf, h2⟩, h3, h4⟩ := h
  have hh : w.heap.size < (w.alloc (.cells #[.slice none 0 0] 29)).heap.size := by simp
  have hN : NetAt HR (w.alloc (.cells #[.slice none 0 0] 29)) w.heap.size [] (fun k => k = w.heap.size) (.slice none 0 0) [] :=
    ⟨heap_alloc_new w _, Mails.nil _, fun k hk => (ofMails_nil hk).elim, rfl, Nat.zero_le _, rfl, fun k hk => (ofMails_nil hk).elim, fun k hk => by rw [hk]; exact hh⟩
  refine ⟨S', fun k => k = w.heap.size, h1.below hb1, ⟨_, _, hN⟩, fun k hk => ⟨(h2 k hk).elim (h3 k) fun e => Nat.le_trans hb.size e, fun e => by have := h1.lt hk; omega⟩, fun k hk => by rw [hk]; exact hb.size, hb.trans (hb1.mono hb.size), fun k hk => hk.elim⟩
end
end Go.Proofs.Ytlejlmlgcehjiaa
