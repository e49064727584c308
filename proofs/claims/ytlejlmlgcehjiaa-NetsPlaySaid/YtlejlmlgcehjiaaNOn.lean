/-
  A net since a world that was reached before: what lay off it then is as it was.
-/
import Derived.Test.YtlejlmlgcehjiaaNSame
namespace Go.Proofs.Ytlejlmlgcehjiaa
open Go.RowKit
/-- The net M at n, since the world wB, at which the blocks SB were its: these lie behind w0, of which all is as it was. -/
def On (w0 wB : World) (SB : Nat → Prop) (n : Nat) (M : List Net.Ml) (w : World) : Prop := Chg HN wB n SB M w ∧ (∀ k, SB k → w0.heap.size ≤ k) ∧ Below w0.heap.size w0 wB
/-- What lay off the net at the one world lies off it at the other, and is as it was. -/
def Moved (wB : World) (SB : Nat → Prop) (w : World) (S : Nat → Prop) : Prop := Foot SB wB w ∧ ∀ k, S k → SB k ∨ wB.heap.size ≤ k
theorem Moved.off {wB w : World} {SB S : Nat → Prop} (h : Moved wB SB w S) {k : Nat} (hk : k < wB.heap.size) (hn : ¬ SB k) : ¬ S k ∧ w.heap[k]? = wB.heap[k]? := ⟨fun e => (h.2 k e).elim hn fun e => by omega, h.1.block k hk hn⟩
/-- A message that is told: its entries lie off the net. -/
def Free (w0 : World) (S : Nat → Prop) (v : Value) (es : List Net.Ent) (w : World) : Prop := EOwn w 0 v es ∧ ∀ k, v.ownBlock = some k → ¬ S k ∧ w0.heap.size ≤ k
section
variable {w0 wB w w' : World} {SB S : Nat → Prop} {n : Nat} {M M' : List Net.Ml} {v : Value} {es : List Net.Ent}
theorem On.bel (h : On w0 wB SB n M w) : Below w0.heap.size w0 w := by
  obtain ⟨⟨S, _, hf, _⟩, h2, h3⟩ := h
  exact h3.trans (hf.below fun k hk => ⟨Nat.lt_of_lt_of_le hk h3.size, fun e => by have := h2 k e; omega⟩)
theorem On.below (h : On w0 wB SB n M w) (hb : Below w.heap.size w w') : On w0 wB SB n M w' := ⟨h.1.then_ hb, h.2⟩
theorem On.drewN (h : On w0 wB SB n M w) (m : Nat) : On w0 wB SB n M (w.drewN m) := by
  obtain ⟨⟨S, h1, hf, h2⟩, h3⟩ := h
  exact ⟨⟨S, h1.drewN m, hf.trans (Foot.drewN SB w m) fun _ _ e => e, h2⟩, h3⟩
/-- What lay off the net is as it was. -/
theorem On.off (h : On w0 wB SB n M w) {k : Nat} (hk : k < wB.heap.size) (hn : ¬ SB k) : w.heap[k]? = wB.heap[k]? := by
  obtain ⟨⟨S, _, hf, _⟩, _⟩ := h
  exact hf.block k hk hn
theorem On.old (h : On w0 wB SB n M w) {k : Nat} (hk : k < w0.heap.size) : w.heap[k]? = w0.heap[k]? := h.bel.block k hk
theorem On.few (h : On w0 wB SB n M w) : M.length ≤ 512 := by
  obtain ⟨⟨S, h1, _, _⟩, _⟩ := h
  exact h1.few
/-- Begun anew. -/
theorem On.now (h : On w0 wB SB n M w) : ∃ S, On w0 w S n M w ∧ Moved wB SB w S ∧ ∀ k, S k → k < w.heap.size := by
  have hb := h.bel
  obtain ⟨⟨S, h1, hf, h2⟩, h3, h4⟩ := h
  exact ⟨S, ⟨⟨S, h1, Foot.refl S w, fun _ e => .inl e⟩, fun k hk => (h2 k hk).elim (h3 k) fun e => Nat.le_trans h4.size e, hb⟩, ⟨hf, h2⟩, fun k hk => h1.lt hk⟩
/-- A block that is none of the net's is written. -/
theorem On.set (h : On w0 wB SB n M w) {b : Nat} (hb0 : w0.heap.size ≤ b) (hb : b < wB.heap.size) (hn : ¬ SB b) (hf : Foot (fun k => k = b) w w') : On w0 wB (fun k => SB k ∨ k = b) n M w' := by
  obtain ⟨⟨S, h1, hf1, h2⟩, h3, h4⟩ := h
  have hnS : ¬ S b := fun e => (h2 b e).elim hn fun e => by omega
  exact ⟨⟨S, h1.foot hf fun k hk e => hnS (e ▸ hk), (hf1.mono fun k _ e => .inl e).trans hf fun k _ e => .inr e, fun k hk => (h2 k hk).imp .inl id⟩, fun k hk => hk.elim (h3 k) fun e => by omega, h4⟩
theorem on_len (h : Hid (On w0 wB SB n M w)) : Calls Try.prog 15 #[.pointer (some ⟨n, 0, none⟩)] w fun e w' => e = .returned (.int .i64 (M.length : Int)) ∧ w = w' := by
  obtain ⟨⟨S, h1, _, _⟩, _⟩ := h.out
  exact len_any h1
theorem On.chain {w' : World} (h : On w0 wB SB n M w) (hc : ∀ S, IsNet HN w n M S → Chg HN w n S M' w') : On w0 wB SB n M' w' := by
  obtain ⟨⟨S, h1, hf, h2⟩, h3, h4⟩ := h
  obtain ⟨S', c1, c2, c3⟩ := hc S h1
  refine ⟨⟨S', c1, hf.trans (c2.mono (S' := fun k => SB k ∨ wB.heap.size ≤ k) fun k _ e => h2 k e) fun k hk e => e.elim id fun e => by omega, fun k hk => (c3 k hk).elim (h2 k) fun e => .inr (Nat.le_trans hf.size e)⟩, h3, h4⟩
theorem on_send (hd : Net.Hd) (h : Hid (On w0 wB SB n M w)) (hE : Ents w v es) (hl : es.length ≤ 100000) {r : Bool} (hR : Net.send M ⟨hd, es⟩ = (M', r)) : Calls Try.prog 20 #[.pointer (some ⟨n, 0, none⟩), .agg (mcells hd v).toArray] w fun e w' => e = .returned (.bool r) ∧ Hid (On w0 wB SB n M' w') := by
  obtain ⟨⟨S, h1, hf, h2⟩, h3⟩ := h.out
  refine (send_any hd h1 hE hl).mono ?_
  rw [hR]
  rintro e w' ⟨rfl, hc⟩
  obtain ⟨S', c1, c2, c3⟩ := hc.out
  refine ⟨rfl, ⟨S', c1, hf.trans (c2.mono (S' := fun k => SB k ∨ wB.heap.size ≤ k) fun k _ e => h2 k e) fun k hk e => e.elim id fun e => by omega, fun k hk => (c3 k hk).elim (h2 k) fun e => .inr (Nat.le_trans hf.size e)⟩, h3⟩
theorem On.flag {w' : World} {e : Ending} {ok : Bool} (h : On w0 wB SB n M w) {S : Nat → Prop} (hf : Foot SB wB w) (h2 : ∀ k, S k → SB k ∨ wB.heap.size ≤ k) (hF : Flag w n S M' ok e w') : e = .returned (.bool ok) ∧ Hid (On w0 wB SB n M' w') := by
  obtain ⟨rfl, hc⟩ := hF
  obtain ⟨S', c1, c2, c3⟩ := hc.out
  refine ⟨rfl, ⟨S', c1, hf.trans (c2.mono (S' := fun k => SB k ∨ wB.heap.size ≤ k) fun k _ e => h2 k e) fun k hk e => e.elim id fun e => by omega, fun k hk => (c3 k hk).elim (h2 k) fun e => .inr (Nat.le_trans hf.size e)⟩, h.2⟩
theorem on_copy (i : Int) (h : Hid (On w0 wB SB n M w)) {r : Bool} (hR : Net.copy M i = (M', r)) : Calls Try.prog 21 #[.pointer (some ⟨n, 0, none⟩), .int .i64 i] w fun e w' => e = .returned (.bool r) ∧ Hid (On w0 wB SB n M' w') := by
  obtain ⟨⟨S, h1, hf, h2⟩, h3⟩ := h.out
  refine (copy_any i h1).mono ?_
  rw [hR]
  exact fun e w' hF => On.flag h.out hf h2 hF
theorem on_drop (i : Int) (h : Hid (On w0 wB SB n M w)) {r : Bool} {m : Net.Ml} (hR : Net.take M i = (M', m, r)) : Calls Try.prog 24 #[.pointer (some ⟨n, 0, none⟩), .int .i64 i] w fun e w' => e = .returned (.bool r) ∧ Hid (On w0 wB SB n M' w') := by
  obtain ⟨⟨S, h1, hf, h2⟩, h3⟩ := h.out
  refine (drop_any i h1).mono ?_
  rw [hR]
  exact fun e w' hF => On.flag h.out hf h2 hF
theorem on_all (h : Hid (On w0 wB SB n M w)) : Calls Try.prog 17 #[.pointer (some ⟨n, 0, none⟩)] w (AllPost M w) := by
  obtain ⟨⟨S, h1, hf, h2⟩, h3⟩ := h.out
  exact all_any h1
/-- What Look, and Take, answer of it. -/
def ToldOn (w0 wB : World) (SB : Nat → Prop) (n : Nat) (M' : List Net.Ml) (m : Net.Ml) (r : Bool) (e : Ending) (w' : World) : Prop :=
  ∃ A c S', e = .returned (.tuple #[.agg (mcells m.h (.slice A m.es.length c)).toArray, .bool r]) ∧ Hid (On w0 w' S' n M' w') ∧ Hid (Moved wB SB w' S') ∧ Hid (Free w0 S' (.slice A m.es.length c) m.es w') ∧ Hid (∀ k, S' k → k < w'.heap.size)
theorem On.told {R : List Net.Ml × Net.Ml × Bool} {e : Ending} (h : On w0 wB SB n M w) {S : Nat → Prop} (hf : Foot SB wB w) (h2 : ∀ k, S k → SB k ∨ wB.heap.size ≤ k) (hT : Told w n S R e w') : ToldOn w0 wB SB n R.1 R.2.1 R.2.2 e w' := by
  obtain ⟨A, c, rfl, hT⟩ := hT
  obtain ⟨S', t1, t2, t3, t4, t5⟩ := hT.out
  obtain ⟨hb, hS, hB⟩ := h
  have hold : ∀ k, S k ∨ w.heap.size ≤ k → SB k ∨ wB.heap.size ≤ k := fun k e => e.elim (h2 k) fun e => .inr (Nat.le_trans hf.size e)
  have hw0 : ∀ k, SB k ∨ wB.heap.size ≤ k → w0.heap.size ≤ k := fun k e => e.elim (hS k) fun e => Nat.le_trans hB.size e
  have hf' : Foot SB wB w' := hf.trans (t2.mono (S' := fun k => SB k ∨ wB.heap.size ≤ k) fun k _ e => h2 k e) fun k hk e => e.elim id fun e => by omega
  refine ⟨A, c, S', rfl, ⟨⟨S', t1, Foot.refl _ _, fun _ e => .inl e⟩, fun k hk => hw0 k (hold k (t3 k hk)), hB.trans (hf'.below fun k hk => ⟨Nat.lt_of_lt_of_le hk hB.size, fun e => by have := hS k e; omega⟩)⟩, ⟨hf', fun k hk => hold k (t3 k hk)⟩, ⟨t4, fun k hk => ⟨(t5 k hk).1, hw0 k (hold k (t5 k hk).2)⟩⟩, fun k hk => t1.lt hk⟩
theorem on_look (i : Int) (h : Hid (On w0 wB SB n M w)) {r : Bool} {m : Net.Ml} (hR : Net.look M i = (M', m, r)) : Calls Try.prog 23 #[.pointer (some ⟨n, 0, none⟩), .int .i64 i] w (ToldOn w0 wB SB n M' m r) := by
  obtain ⟨⟨S, h1, hf, h2⟩, h3⟩ := h.out
  refine (look_any i h1).mono fun e w' hT => ?_
  have := On.told h.out hf h2 hT
  rw [hR] at this
  exact this
theorem on_take (i : Int) (h : Hid (On w0 wB SB n M w)) {r : Bool} {m : Net.Ml} (hR : Net.take M i = (M', m, r)) : Calls Try.prog 22 #[.pointer (some ⟨n, 0, none⟩), .int .i64 i] w (ToldOn w0 wB SB n M' m r) := by
  obtain ⟨⟨S, h1, hf, h2⟩, h3⟩ := h.out
  refine (take_any i h1).mono fun e w' hT => ?_
  have := On.told h.out hf h2 hT
  rw [hR] at this
  exact this
end
/-- Begun anew behind what has made memory alone. -/
theorem On.rebase {w0 w w' : World} {S : Nat → Prop} {n : Nat} {M : List Net.Ml} (h : On w0 w S n M w) (hlt : ∀ k, S k → k < w.heap.size) (hb : Below w.heap.size w w') : On w0 w' S n M w' := by
  obtain ⟨⟨S', ⟨v, ms, h1⟩, _, h2⟩, h3, h4⟩ := h
  have hS : ∀ k, S' k → S k := fun k hk => (h2 k hk).elim id fun e => by have := h1.lt k hk; omega
  have h5 : NetAt HN w n M S v ms := ⟨h1.head, h1.mails, h1.offn, h1.ml, h1.few, hS _ h1.inn, fun k hk => hS k (h1.inS k hk), hlt⟩
  exact ⟨⟨S, ⟨v, ms, h5.below hb⟩, Foot.refl _ _, fun _ e => .inl e⟩, h3, h4.trans (hb.mono h4.size)⟩
/-- A message in a box of its own. -/
theorem box_mail (W : World) (h : Net.Hd) (A : Option Addr) (n c : Nat) :
    ∃ W2, (storeVar 36 ⟨W.heap.size, 0, none⟩ (.agg (mcells h (.slice A n c)).toArray)).run Try.prog (W.alloc (.cells #[.int .i64 0, .int .i64 0, .int .i64 0, .int .i64 0, .int .i64 0, .int .i64 0, .int .i64 0, .int .i64 0, .int .i64 0, .slice none 0 0, .int .i64 0, .int .i64 0, .int .i64 0, .int .i64 0, .int .i64 0, .int .i64 0, .int .i64 0, .int .i64 0] 36)) = .ok () W2 ∧ W2.heap[W.heap.size]? = some (.cells (mcells h (.slice A n c)).toArray 36 (0, 0)) ∧ Below W.heap.size W W2 ∧ W.heap.size < W2.heap.size := by
  have hx := heap_alloc_new W (.cells #[.int .i64 0, .int .i64 0, .int .i64 0, .int .i64 0, .int .i64 0, .int .i64 0, .int .i64 0, .int .i64 0, .int .i64 0, .slice none 0 0, .int .i64 0, .int .i64 0, .int .i64 0, .int .i64 0, .int .i64 0, .int .i64 0, .int .i64 0, .int .i64 0] 36)
  have hst := run_storeVar_row (P := Try.prog) _ W.heap.size 36 36 _ (mcells h (.slice A n c)).toArray hx (by kernel_rfl) rfl (by simp [mcells, Value.oneCell'])
  refine ⟨_, hst, setRow_heap _ _ _ _ _ _ hx, ((Below.refl _ _).alloc (Nat.le_refl _) _).trans ((Foot.row (fun k => k = W.heap.size) _ _ _ rfl).below fun k hk => ⟨by simp; omega, by omega⟩), ?_⟩
  simp [World.setRow]
theorem ofMails_nil {k : Nat} (h : OfMails (.slice none 0 0) [] k) : False := by
  rcases h with e | ⟨m, hm, _⟩
  · cases e
  · cases hm
theorem on_new (w : World) : Calls Try.prog 10 #[] w fun e w' => ∃ n S, e = .returned (.pointer (some ⟨n, 0, none⟩)) ∧ Hid (On w w' S n [] w') ∧ Hid (Below w.heap.size w w') ∧ Hid (∀ k, S k → w.heap.size ≤ k ∧ k < w'.heap.size) := by
  go_enter Try.func10, Try.ntmps10
  go_wp2
  go_ret
  have hb : Below w.heap.size w (w.alloc (.cells #[.bool true, .slice none 0 0] 52)) := (Below.refl _ _).alloc (Nat.le_refl _) _
  have hN : NetAt HN (w.alloc (.cells #[.bool true, .slice none 0 0] 52)) w.heap.size [] (fun k => k = w.heap.size) (.slice none 0 0) [] :=
    ⟨heap_alloc_new w _, Mails.nil _, fun k hk => (ofMails_nil hk).elim, rfl, Nat.zero_le _, rfl, fun k hk => (ofMails_nil hk).elim, fun k hk => by rw [hk]; simp⟩
  exact ⟨_, fun k => k = w.heap.size, rfl, ⟨⟨_, ⟨_, _, hN⟩, Foot.refl _ _, fun _ e => .inl e⟩, fun k e => by omega, hb⟩, hb, fun k e => by rw [e]; simp⟩
end Go.Proofs.Ytlejlmlgcehjiaa
