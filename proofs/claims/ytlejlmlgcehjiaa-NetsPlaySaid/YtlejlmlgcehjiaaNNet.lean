/-
  A net in memory: the program's (two cells), the document's (one).
-/
import Derived.Test.YtlejlmlgcehjiaaNOwn
namespace Go.Proofs.Ytlejlmlgcehjiaa
open Go.RowKit
def MM.Apart (f g : MM) : Prop := ∀ k, f.v.ownBlock = some k → g.v.ownBlock ≠ some k
theorem MM.Apart.symm {f g : MM} (h : MM.Apart f g) : MM.Apart g f := fun k h1 h2 => h k h2 h1
/-- Messages: a row of eighteens at 'v', each one's entries in a row of their own. -/
structure Mails (w : World) (v : Value) (ms : List MM) : Prop where
  row : w.ownsRow 0 36 18 v ms.length (mcs ms)
  own : ∀ m ∈ ms, EOwn w 0 m.v m.es
  few : ∀ m ∈ ms, m.es.length ≤ 100000
  apart : ms.Pairwise MM.Apart
  off : ∀ m ∈ ms, ∀ k, m.v.ownBlock = some k → v.ownBlock ≠ some k
def OfMails (v : Value) (ms : List MM) (k : Nat) : Prop := v.ownBlock = some k ∨ ∃ m ∈ ms, m.v.ownBlock = some k
section
variable {w w' : World} {v v' : Value} {ms : List MM} {S : Nat → Prop}
theorem Mails.lt (h : Mails w v ms) {k : Nat} (hk : OfMails v ms k) : k < w.heap.size := by
  rcases hk with e | ⟨m, hm, e⟩
  · exact (World.ownsRow.lt h.row k e).2
  · exact ((h.own m hm).lt e).2
theorem Mails.foot (h : Mails w v ms) (hf : Foot S w w') (hn : ∀ k, OfMails v ms k → ¬ S k) : Mails w' v ms :=
  ⟨owns_foot h.row hf fun k hk => hn k (.inl hk), fun m hm => (h.own m hm).foot hf fun k hk => hn k (.inr ⟨m, hm, hk⟩), h.few, h.apart, h.off⟩
theorem Mails.below (h : Mails w v ms) (hb : Below w.heap.size w w') : Mails w' v ms := h.foot (below_foot hb : Foot (fun _ => False) w w') fun _ _ e => e
theorem Mails.nil (w : World) : Mails w (.slice none 0 0) [] := ⟨World.ownsRow_nil _ _ _ _, fun _ h => by simp at h, fun _ h => by simp at h, List.Pairwise.nil, fun _ h => by simp at h⟩
/-- The cells of the message at a place. -/
theorem Mails.at_ (h : Mails w v ms) {i : Nat} (hi : i < ms.length) :
    ∃ g c, v = .slice (some ⟨g, 0, none⟩) ms.length c ∧ ms.length ≤ c ∧ c ≤ maxLen ∧ g < w.heap.size ∧ (∀ j, j < 18 → w.cell? ⟨g, i * 18 + j, none⟩ = ms[i].cells[j]?) ∧ ∀ o, w.frozen? ⟨g, o, none⟩ = false := by
  have hr := h.row
  rcases hr.2 with ⟨hv, h0⟩ | ⟨g, cap, cur, rfl, hb, hg, hnc, hcm, hcs, ht⟩
  · omega
  · exact ⟨g, cap, rfl, hnc, hcm, lt_of_block hg, fun j hj => by rw [World.ownsRow.cellAt hr _ (by omega), mcs_at ms hi hj], fun o => frozen_of_row w g o _ _ hg⟩
theorem Mails.len (h : Mails w v ms) : ∃ A c, v = .slice A ms.length c ∧ ms.length ≤ c ∧ c ≤ maxLen ∧ (A = none → ms.length = 0 ∧ c = 0) := by
  rcases h.row.2 with ⟨rfl, h0⟩ | ⟨g, cap, cur, rfl, hb, hg, hnc, hcm, hcs, ht⟩
  · exact ⟨none, 0, by rw [h0], by omega, Nat.zero_le _, fun _ => ⟨h0, rfl⟩⟩
  · exact ⟨_, cap, rfl, hnc, hcm, fun e => by cases e⟩
theorem mcs_one (h : Mails w v ms) : ∀ u ∈ mcs ms, u.oneCell' = true := by
  intro u hu
  obtain ⟨m, hm, hu'⟩ := List.mem_flatMap.1 hu
  obtain ⟨A, c, e, _⟩ := own_is_slice (h.own m hm)
  exact mcells_one m.h (by rw [e]; rfl) u hu'
/-- A message more, behind all. -/
theorem Mails.snoc (h : Mails w v ms) (m : MM) (hm : EOwn w 0 m.v m.es) (hl : m.es.length ≤ 100000) (hfr : ∀ k, m.v.ownBlock = some k → ¬ OfMails v ms k) (hg : Grew w w' 36 18 v v' (ms.length + 1) (mcs ms ++ m.cells)) :
    Mails w' v' (ms ++ [m]) := by
  obtain ⟨hr, hf, hk⟩ := hg
  have mem : ∀ f ∈ ms ++ [m], f ∈ ms ∨ f = m := fun f hf => (List.mem_append.1 hf).elim .inl fun e => .inr (by simpa using e)
  have hkept : ∀ f ∈ ms ++ [m], EOwn w' 0 f.v f.es ∧ ∀ k, f.v.ownBlock = some k → k < w.heap.size ∧ v.ownBlock ≠ some k := fun f hf' => by
    rcases mem f hf' with hf' | rfl
    · exact ⟨(h.own f hf').foot hf fun k e1 e2 => h.off f hf' k e1 e2, fun k e => ⟨((h.own f hf').lt e).2, h.off f hf' k e⟩⟩
    · exact ⟨hm.foot hf fun k e1 e2 => hfr k e1 (.inl e2), fun k e => ⟨(hm.lt e).2, fun e2 => hfr k e (.inl e2)⟩⟩
  refine ⟨by rw [List.length_append, mcs_append]; simpa [mcs] using hr, fun f hf' => (hkept f hf').1, fun f hf' => ?_, ?_, fun f hf' k e e2 => ?_⟩
  · rcases mem f hf' with hf' | rfl
    · exact h.few f hf'
    · exact hl
  · rw [List.pairwise_append]
    refine ⟨h.apart, List.pairwise_singleton _ _, fun a ha b hb k e1 e2 => ?_⟩
    obtain rfl : b = m := by simpa using hb
    exact hfr k e2 (.inr ⟨a, ha, e1⟩)
  · obtain ⟨h1, h2⟩ := (hkept f hf').2 k e
    rcases hk k e2 with h3 | h3
    · exact h2 h3
    · omega
/-- Some of the messages, in their order, in a row that holds them. -/
theorem Mails.some_ {ms' : List MM} (h : Mails w v ms) (hs : ms'.Sublist ms) (hf : Foot (fun k => v.ownBlock = some k) w w') (hr : w'.ownsRow 0 36 18 v' ms'.length (mcs ms')) (hk : ∀ k, v'.ownBlock = some k → v.ownBlock = some k ∨ w.heap.size ≤ k) :
    Mails w' v' ms' :=
  ⟨hr, fun m hm => (h.own m (hs.subset hm)).foot hf fun k e1 e2 => h.off m (hs.subset hm) k e1 e2, fun m hm => h.few m (hs.subset hm), h.apart.sublist hs, fun m hm k e1 e2 => by
    rcases hk k e2 with h3 | h3
    · exact h.off m (hs.subset hm) k e1 h3
    · have := ((h.own m (hs.subset hm)).lt e1).2; omega⟩
end
/-- The program's net holds: made, and its row; the document's: its row. -/
def HN (v : Value) : Obj := .cells #[.bool true, v] 52 (0, 0)
def HR (v : Value) : Obj := .cells #[v] 29 (0, 0)
structure NetAt (H : Value → Obj) (w : World) (n : Nat) (M : List Net.Ml) (S : Nat → Prop) (v : Value) (ms : List MM) : Prop where
  head : w.heap[n]? = some (H v)
  mails : Mails w v ms
  offn : ∀ k, OfMails v ms k → k ≠ n
  ml : ms.map MM.ml = M
  few : M.length ≤ 512
  inn : S n
  inS : ∀ k, OfMails v ms k → S k
  lt : ∀ k, S k → k < w.heap.size
def IsNet (H : Value → Obj) (w : World) (n : Nat) (M : List Net.Ml) (S : Nat → Prop) : Prop := ∃ v ms, NetAt H w n M S v ms
/-- What a call that may change the net leaves. -/
def Chg (H : Value → Obj) (w : World) (n : Nat) (S : Nat → Prop) (M : List Net.Ml) (w' : World) : Prop := ∃ S', IsNet H w' n M S' ∧ Foot S w w' ∧ ∀ k, S' k → S k ∨ w.heap.size ≤ k
section
variable {H : Value → Obj} {w w' : World} {n : Nat} {M : List Net.Ml} {S T : Nat → Prop} {v v' : Value} {ms : List MM}
theorem NetAt.foot (h : NetAt H w n M S v ms) (hf : Foot T w w') (hn : ∀ k, S k → ¬ T k) : NetAt H w' n M S v ms :=
  ⟨hf.kept h.head (hn _ h.inn), h.mails.foot hf fun k hk => hn k (h.inS k hk), h.offn, h.ml, h.few, h.inn, h.inS, fun k hk => Nat.lt_of_lt_of_le (h.lt k hk) hf.size⟩
theorem NetAt.below (h : NetAt H w n M S v ms) (hb : Below w.heap.size w w') : NetAt H w' n M S v ms := h.foot (below_foot hb : Foot (fun _ => False) w w') fun _ _ e => e
theorem IsNet.foot (h : IsNet H w n M S) (hf : Foot T w w') (hn : ∀ k, S k → ¬ T k) : IsNet H w' n M S := by
  obtain ⟨v, ms, h⟩ := h
  exact ⟨v, ms, h.foot hf hn⟩
theorem IsNet.below (h : IsNet H w n M S) (hb : Below w.heap.size w w') : IsNet H w' n M S := h.foot (below_foot hb : Foot (fun _ => False) w w') fun _ _ e => e
theorem IsNet.drewN (h : IsNet H w n M S) (m : Nat) : IsNet H (w.drewN m) n M S := h.foot (Foot.drewN (fun _ => False) w m) fun _ _ e => e
theorem IsNet.lt (h : IsNet H w n M S) {k : Nat} (hk : S k) : k < w.heap.size := by
  obtain ⟨v, ms, h⟩ := h
  exact h.lt k hk
theorem IsNet.inn (h : IsNet H w n M S) : S n := by
  obtain ⟨v, ms, h⟩ := h
  exact h.inn
theorem IsNet.few (h : IsNet H w n M S) : M.length ≤ 512 := by
  obtain ⟨v, ms, h⟩ := h
  exact h.few
theorem NetAt.len (h : NetAt H w n M S v ms) : ms.length = M.length := by rw [← h.ml, List.length_map]
theorem Chg.same (h : IsNet H w n M S) (hb : Below w.heap.size w w') : Chg H w n S M w' := ⟨S, h.below hb, below_foot hb, fun _ h => .inl h⟩
theorem Chg.from_ {M' : List Net.Ml} {w0 : World} (hb : Below w0.heap.size w0 w) (h : Chg H w n S M' w') : Chg H w0 n S M' w' := by
  obtain ⟨S', h1, h2, h3⟩ := h
  exact ⟨S', h1, (below_foot hb : Foot S w0 w).trans h2 fun _ _ e => e, fun k hk => (h3 k hk).imp id fun e => Nat.le_trans hb.size e⟩
theorem Chg.then_ {M' : List Net.Ml} {w'' : World} (h : Chg H w n S M' w') (hb : Below w'.heap.size w' w'') : Chg H w n S M' w'' := by
  obtain ⟨S', h1, h2, h3⟩ := h
  exact ⟨S', h1.below hb, h2.trans (below_foot hb : Foot S w' w'') fun _ _ e => e, h3⟩
/-- A message was sent. -/
theorem NetAt.sent (h : NetAt H w n M S v ms) (h5 : M.length < 512) {hd : Net.Hd} {mv : Value} {es : List Net.Ent} {W1 W2 W3 W : World} (hb1 : Below w.heap.size w W1) (hE : EOwn W1 w.heap.size mv es) (hl : es.length ≤ 100000) (hb2 : Below W1.heap.size W1 W2)
    (hg : Grew W2 W3 36 18 v v' (ms.length + 1) (mcs ms ++ mcells hd mv)) (hf : Foot (fun k => k = n) W3 W) (hh : W.heap[n]? = some (H v')) : Chg H w n S (M ++ [⟨hd, es⟩]) W := by
  have hbb : Below w.heap.size w W2 := hb1.trans (hb2.mono hb1.size)
  have h2 := h.below hbb
  have hE2 := hE.below hb2
  have hM := h2.mails.snoc ⟨hd, mv, es⟩ (hE2.base (Nat.zero_le _)) hl (fun k e1 e2 => by have := h.lt k (h.inS k e2); have := (hE.lt e1).1; omega) hg
  have hnv : ∀ k, v'.ownBlock = some k → k ≠ n := fun k e => by
    rcases hg.2.2 k e with e | e
    · exact h.offn k (.inl e)
    · have := h.lt n h.inn; have := hbb.size; omega
  have hof : ∀ k, OfMails v' (ms ++ [⟨hd, mv, es⟩]) k → k ≠ n ∧ (S k ∨ w.heap.size ≤ k) := fun k hk => by
    rcases hk with e | ⟨f, hf, e⟩
    · refine ⟨hnv k e, ?_⟩
      rcases hg.2.2 k e with e | e
      · exact .inl (h.inS k (.inl e))
      · exact .inr (Nat.le_trans hbb.size e)
    · rcases List.mem_append.1 hf with hf | hf
      · exact ⟨h.offn k (.inr ⟨f, hf, e⟩), .inl (h.inS k (.inr ⟨f, hf, e⟩))⟩
      · obtain rfl : f = ⟨hd, mv, es⟩ := by simpa using hf
        have h1 := (hE.lt e).1
        have h3 := h.lt n h.inn
        exact ⟨by omega, .inr h1⟩
  have hMW := hM.foot hf fun k hk => (hof k hk).1
  have hsz := hf.size
  have hsg := hg.2.1.size
  refine ⟨fun k => k = n ∨ OfMails v' (ms ++ [⟨hd, mv, es⟩]) k, ⟨v', _, hh, hMW, fun k hk => (hof k hk).1, by rw [List.map_append, h.ml]; rfl, by rw [List.length_append]; simp only [List.length_cons, List.length_nil]; omega, .inl rfl, fun k hk => .inr hk, fun k hk => ?_⟩, ?_, fun k hk => ?_⟩
  · rcases hk with rfl | hk
    · exact lt_of_block hh
    · exact hMW.lt hk
  · exact ((below_foot hbb : Foot S w W2).trans hg.2.1 fun k _ e => h.inS k (.inl e)).trans hf fun k _ e => by rw [e]; exact h.inn
  · rcases hk with rfl | hk
    · exact .inl h.inn
    · exact (hof k hk).2
end
end Go.Proofs.Ytlejlmlgcehjiaa
