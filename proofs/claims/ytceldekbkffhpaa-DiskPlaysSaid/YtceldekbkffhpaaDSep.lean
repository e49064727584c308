/-
  Things in memory that lie apart, rows that were read of them, and the readers of a disk.
-/
import Derived.Test.YtceldekbkffhpaaDOpens
namespace Go.Proofs.Ytceldekbkffhpaa
open Go.RowKit
theorem Reads.foot {w w' : World} {v : Value} {xs : List Value} {S : Nat → Prop} (h : Reads w v xs) (hf : Foot S w w') (hn : ∀ k, 0 < xs.length → v.ownBlock = some k → ¬ S k) : Reads w' v xs := by
  obtain ⟨A, c, rfl, h1, h2⟩ := h
  refine ⟨A, c, rfl, h1, fun h0 => ?_⟩
  obtain ⟨b, off, rfl, hb, hc⟩ := h2 h0
  exact ⟨b, off, rfl, Nat.lt_of_lt_of_le hb hf.size, fun j hj => (hf.cell (p := ⟨b, off + j, none⟩) hb (hn b h0 rfl)).trans (hc j hj)⟩
theorem Reads.lt {w : World} {v : Value} {xs : List Value} (h : Reads w v xs) {k : Nat} (h0 : 0 < xs.length) (e : v.ownBlock = some k) : k < w.heap.size := by
  obtain ⟨A, c, rfl, h1, h2⟩ := h
  obtain ⟨b, off, rfl, hb, hc⟩ := h2 h0
  have : b = k := Option.some.inj e
  omega
theorem mem0 {α : Type} {a : α} {l : List α} : a ∈ a :: l := List.mem_cons_self ..
theorem mem1 {α : Type} {a b : α} {l : List α} : b ∈ a :: b :: l := List.mem_cons_of_mem _ mem0
theorem mem2 {α : Type} {a b c : α} {l : List α} : c ∈ a :: b :: c :: l := List.mem_cons_of_mem _ mem1
theorem mem3 {α : Type} {a b c d : α} {l : List α} : d ∈ a :: b :: c :: d :: l := List.mem_cons_of_mem _ mem2
theorem mem4 {α : Type} {a b c d e : α} {l : List α} : e ∈ a :: b :: c :: d :: e :: l := List.mem_cons_of_mem _ mem3
theorem mem5 {α : Type} {a b c d e f : α} {l : List α} : f ∈ a :: b :: c :: d :: e :: f :: l := List.mem_cons_of_mem _ mem4
/-- A row's cell. -/
theorem Reads.at_ {w : World} {A : Option Addr} {n c : Nat} {xs : List Value} (h : Reads w (.slice A n c) xs) {i : Nat} (hi : i < xs.length) {x : Value} (hx : xs.getD i undef = x) : ∃ b off, A = some ⟨b, off, none⟩ ∧ w.cell? ⟨b, off + i, none⟩ = some x := by
  subst hx
  obtain ⟨A', c', hv, h1, h2⟩ := h
  injection hv with e1 e2 e3
  subst e1 e2 e3
  obtain ⟨b, off, rfl, _, hc⟩ := h2 (by omega)
  exact ⟨b, off, rfl, hc i hi⟩
theorem Ints.at_ {w : World} {A : Option Addr} {n c : Nat} {xs : List Int} (h : Ints w (.slice A n c) xs) {i : Nat} (hi : i < xs.length) : ∃ b off, A = some ⟨b, off, none⟩ ∧ w.cell? ⟨b, off + i, none⟩ = some (.int .i64 (xs.getD i 0)) := by
  obtain ⟨A', c', hv, h1, _, _, h2⟩ := h
  injection hv with e1 e2 e3
  subst e1 e2 e3
  obtain ⟨b, off, rfl, _, hc⟩ := h2 (by omega)
  exact ⟨b, off, rfl, hc i hi⟩
/-- What lies in memory, in blocks of its own, stays where others are written. -/
structure Fp (P : World → (Nat → Prop) → Prop) : Prop where
  foot : ∀ {w w' : World} {S S' : Nat → Prop}, P w S → Foot S' w w' → (∀ k, S k → ¬ S' k) → P w' S
  lt : ∀ {w : World} {S : Nat → Prop}, P w S → ∀ k, S k → k < w.heap.size
def AtDisk (d : Nat) (D : Dsk.Dk) (w : World) (S : Nat → Prop) : Prop := IsDisk w d D S
def AtNone (_ : World) (S : Nat → Prop) : Prop := ∀ k, ¬ S k
theorem fp_disk (d : Nat) (D : Dsk.Dk) : Fp (AtDisk d D) := ⟨fun h hf hn => IsDisk.foot h hf hn, fun h => IsDisk.lt h⟩
theorem fp_none : Fp AtNone := ⟨fun h _ _ => h, fun h k hk => (h k hk).elim⟩
/-- Two things apart, both made behind w0, of which all is as it was; and rows that were read, apart from both. -/
def Both (w0 : World) (P Q : World → (Nat → Prop) → Prop) (vs : List (Value × List Value)) (w : World) : Prop :=
  Fp P ∧ Fp Q ∧ ∃ S T, P w S ∧ Q w T ∧ (∀ k, S k → ¬ T k) ∧ (∀ k, S k → w0.heap.size ≤ k) ∧ (∀ k, T k → w0.heap.size ≤ k) ∧ Below w0.heap.size w0 w ∧ ∀ p ∈ vs, Reads w p.1 p.2 ∧ ∀ k, 0 < p.2.length → p.1.ownBlock = some k → ¬ S k ∧ ¬ T k
section
variable {w0 w w' : World} {P P' Q : World → (Nat → Prop) → Prop} {vs : List (Value × List Value)} {v : Value} {xs : List Value} {d : Nat} {D D' : Dsk.Dk} {R : Dsk.Dk × Int} {r : Int}
theorem Both.swap (h : Both w0 P Q vs w) : Both w0 Q P vs w := by
  obtain ⟨f1, f2, S, T, h1, h2, h3, h4, h5, h6, h7⟩ := h
  exact ⟨f2, f1, T, S, h2, h1, fun k a b => h3 k b a, h5, h4, h6, fun p hp => ⟨(h7 p hp).1, fun k h0 e => ⟨((h7 p hp).2 k h0 e).2, ((h7 p hp).2 k h0 e).1⟩⟩⟩
theorem Both.bel (h : Both w0 P Q vs w) : Below w0.heap.size w0 w := by
  obtain ⟨_, _, S, T, h1, h2, h3, h4, h5, h6, h7⟩ := h
  exact h6
theorem Both.reads (h : Both w0 P Q vs w) {p : Value × List Value} (hp : p ∈ vs) : Reads w p.1 p.2 := by
  obtain ⟨_, _, S, T, h1, h2, h3, h4, h5, h6, h7⟩ := h
  exact (h7 p hp).1
theorem Both.fewer {us : List (Value × List Value)} (h : Both w0 P Q vs w) (hs : ∀ p ∈ us, p ∈ vs) : Both w0 P Q us w := by
  obtain ⟨f1, f2, S, T, h1, h2, h3, h4, h5, h6, h7⟩ := h
  exact ⟨f1, f2, S, T, h1, h2, h3, h4, h5, h6, fun p hp => h7 p (hs p hp)⟩
theorem Both.below (h : Both w0 P Q vs w) (hb : Below w.heap.size w w') : Both w0 P Q vs w' := by
  obtain ⟨f1, f2, S, T, h1, h2, h3, h4, h5, h6, h7⟩ := h
  have hf : Foot (fun _ => False) w w' := below_foot hb
  exact ⟨f1, f2, S, T, f1.foot h1 hf fun _ _ e => e, f2.foot h2 hf fun _ _ e => e, h3, h4, h5, h6.trans (hb.mono h6.size), fun p hp => ⟨(h7 p hp).1.below hb, (h7 p hp).2⟩⟩
theorem Both.still (h : Both w0 P Q vs w) (hb : Still w w') : Both w0 P Q vs w' := h.below (hb _)
theorem Both.add (h : Both w0 P Q vs w) (hb : Below w.heap.size w w') (hr : Reads w' v xs) (hn : ∀ k, v.ownBlock = some k → w.heap.size ≤ k) : Both w0 P Q ((v, xs) :: vs) w' := by
  obtain ⟨f1, f2, S, T, h1, h2, h3, h4, h5, h6, h7⟩ := h
  have hf : Foot (fun _ => False) w w' := below_foot hb
  refine ⟨f1, f2, S, T, f1.foot h1 hf fun _ _ e => e, f2.foot h2 hf fun _ _ e => e, h3, h4, h5, h6.trans (hb.mono h6.size), fun p hp => ?_⟩
  rcases List.mem_cons.1 hp with rfl | hp
  · refine ⟨hr, fun k _ e => ?_⟩
    have := hn k e
    exact ⟨fun e => by have := f1.lt h1 k e; omega, fun e => by have := f2.lt h2 k e; omega⟩
  · exact ⟨(h7 p hp).1.below hb, (h7 p hp).2⟩
/-- The first one is changed by a call that writes nothing but it, and new memory. -/
theorem Both.left {f : FuncId} {args : Array Value} {E : Ending → Prop} (h : Both w0 P Q vs w) (fp : Fp P')
    (hc : ∀ S, P w S → (∀ k, S k → w0.heap.size ≤ k) → Calls Try.prog f args w fun e w' => E e ∧ ∃ S', P' w' S' ∧ Foot S w w' ∧ ∀ k, S' k → S k ∨ w.heap.size ≤ k) :
    Calls Try.prog f args w fun e w' => E e ∧ Both w0 P' Q vs w' := by
  obtain ⟨f1, f2, S, T, h1, h2, h3, h4, h5, h6, h7⟩ := h
  refine (hc S h1 h4).mono ?_
  rintro e w' ⟨he, S', q1, q2, q3⟩
  refine ⟨he, fp, f2, S', T, q1, f2.foot h2 q2 fun k a b => h3 k b a, fun k a b => ?_, fun k a => ?_, h5, h6.trans (q2.below fun k hk => ⟨Nat.lt_of_lt_of_le hk h6.size, fun hs => by have := h4 k hs; omega⟩), fun p hp => ⟨(h7 p hp).1.foot q2 fun k h0 e => ((h7 p hp).2 k h0 e).1, fun k h0 e => ⟨fun a => ?_, ((h7 p hp).2 k h0 e).2⟩⟩⟩
  · rcases q3 k a with a | a
    · exact h3 k a b
    · have := f2.lt h2 k b; omega
  · rcases q3 k a with a | a
    · exact h4 k a
    · exact Nat.le_trans h6.size a
  · rcases q3 k a with a | a
    · exact ((h7 p hp).2 k h0 e).1 a
    · have := (h7 p hp).1.lt h0 e; omega
theorem Both.call {f : FuncId} {args : Array Value} (h : Hid (Both w0 (AtDisk d D) Q vs w)) (hR : R = (D', r)) (hc : ∀ S, IsDisk w d D S → (∀ k, S k → w0.heap.size ≤ k) → Calls Try.prog f args w (AnyRet (Did w d S R))) :
    Calls Try.prog f args w fun e w' => e = .returned (.int .i64 r) ∧ Hid (Both w0 (AtDisk d D') Q vs w') := by
  subst hR
  refine (Both.left (P' := AtDisk d D') (E := fun e => e = .returned (.int .i64 r)) h.out (fp_disk _ _) fun S h1 h2 => (hc S h1 h2).mono ?_).mono fun e w' h => h
  rintro e w' ⟨r', rfl, rfl, S', q⟩
  exact ⟨rfl, S', q⟩
theorem Both.good (h : Both w0 (AtDisk d D) Q vs w) : Dsk.Good D := by
  obtain ⟨_, _, S, T, h1, _⟩ := h
  exact IsDisk.good h1
theorem owns_fresh {e : TypeId} {B n : Nat} {v : Value} {ys : List Value} (h : w.ownsRow B e 1 v n ys) : ∀ k, v.ownBlock = some k → B ≤ k := fun k e => by
  rcases h.2 with ⟨rfl, _⟩ | ⟨g, cap, cur, rfl, hg, _⟩
  · cases e
  · have : g = k := Option.some.inj e
    omega
/-- A row that was read, as a slice. -/
def Row (w0 : World) (P Q : World → (Nat → Prop) → Prop) (vs : List (Value × List Value)) (n : Nat) (xs : List Value) (e : Ending) (w' : World) : Prop := ∃ A c, e = .returned (.slice A n c) ∧ Hid (Both w0 P Q ((.slice A n c, xs) :: vs) w')
theorem row_of {e : TypeId} {n : Nat} (h : Both w0 P Q vs w) (hn : xs.length = n) {en : Ending} (hp : EachPost e w xs en w') : Row w0 P Q vs n xs en w' := by
  obtain ⟨v, rfl, ho, hb⟩ := hp
  have hr := Reads.own ho
  have hf := owns_fresh ho
  obtain ⟨A, c, rfl, _⟩ := Reads.own ho
  subst hn
  exact ⟨A, c, rfl, h.add hb hr hf⟩
theorem both_names (h : Hid (Both w0 (AtDisk d D) Q vs w)) : Calls Try.prog 13 #[.pointer (some ⟨d, 0, none⟩)] w (Row w0 (AtDisk d D) Q vs D.fs.length ((Dsk.names D.fs).map Value.string)) := by
  obtain ⟨_, _, S, T, h1, _⟩ := h.out
  exact (names_any h1).mono fun e w' hp => row_of h.out (by simp [Dsk.names]) hp
theorem both_unsync (h : Hid (Both w0 (AtDisk d D) Q vs w)) : Calls Try.prog 14 #[.pointer (some ⟨d, 0, none⟩)] w (Row w0 (AtDisk d D) Q vs D.fs.length ((Dsk.unsynced D.fs).map (Value.int .i64))) := by
  obtain ⟨_, _, S, T, h1, _⟩ := h.out
  exact (unsync_any h1).mono fun e w' hp => row_of h.out (by simp [Dsk.unsynced]) hp
theorem both_size (h : Hid (Both w0 (AtDisk d D) Q vs w)) : Calls Try.prog 18 #[.pointer (some ⟨d, 0, none⟩)] w fun e w' => e = .returned (.int .i64 (Dsk.total D.fs : Int)) ∧ Hid (Both w0 (AtDisk d D) Q vs w') := by
  obtain ⟨_, _, S, T, h1, _⟩ := h.out
  exact (size_any h1).mono fun e w' hp => ⟨hp.1, h.out.below hp.2⟩
theorem both_read (nm : ByteArray) (h : Hid (Both w0 (AtDisk d D) Q vs w)) : Calls Try.prog 11 #[.pointer (some ⟨d, 0, none⟩), .string nm] w fun e w' => e = .returned (.tuple #[.string ⟨(Dsk.read D nm).1.toArray⟩, .int .i64 (Dsk.read D nm).2]) ∧ Hid (Both w0 (AtDisk d D) Q vs w') := by
  obtain ⟨_, _, S, T, h1, _⟩ := h.out
  exact (read_any nm h1).mono fun e w' hp => ⟨hp.1, h.out.below hp.2⟩
theorem both_up {b : Bool} (h : Hid (Both w0 (AtDisk d D) Q vs w)) (hd : D.down = b) : Calls Try.prog 20 #[.pointer (some ⟨d, 0, none⟩)] w fun e w' => e = .returned (.bool (!b)) ∧ w = w' := by
  subst hd
  obtain ⟨_, _, S, T, h1, _⟩ := h.out
  exact up_any h1
theorem both_starts (h : Hid (Both w0 (AtDisk d D) Q vs w)) : Calls Try.prog 21 #[.pointer (some ⟨d, 0, none⟩)] w fun e w' => e = .returned (.int .i64 (D.starts : Int)) ∧ w = w' := by
  obtain ⟨_, _, S, T, h1, _⟩ := h.out
  exact starts_any h1
/-- Ints that lay in memory at w0. -/
theorem Ints.off {v : Value} {l : List Int} (h : Ints w0 v l) {S : Nat → Prop} (hS : ∀ k, S k → w0.heap.size ≤ k) : ∀ k, 0 < l.length → v.ownBlock = some k → ¬ S k := fun k h0 e hs => by
  obtain ⟨_, _, rfl, _, _, _, h6⟩ := h
  obtain ⟨b, off, rfl, hbl, _⟩ := h6 h0
  have e' : b = k := Option.some.inj e
  have := hS k hs
  omega
theorem Ints.old {v : Value} {l : List Int} (h : Ints w0 v l) (hb : Below w0.heap.size w0 w) : Ints w v l := h.foot (below_foot hb : Foot (fun _ => False) w0 w) fun _ _ e => e
end
/-- An act of a slice of them. -/
theorem Acts.at_ {w : World} {A : Option Addr} {n c : Nat} {l : List ActV} (h : Acts w (.slice A n c) l) {i : Nat} (hi : i < l.length) : ∃ b o, A = some ⟨b, o, none⟩ ∧ b < w.heap.size ∧ l[i].cellsAt w b (o + i * 6) := by
  obtain ⟨A', c', hv, h1, _, h2⟩ := h
  injection hv with e1 e2 e3
  subst e1 e2 e3
  obtain ⟨b, o, rfl, hb, hc⟩ := h2 (by omega)
  exact ⟨b, o, rfl, hb, hc i hi⟩
/-- An act that is handed in, and what its list reads. -/
structure ActIn (w : World) (x : ActV) (keep : List Int) : Prop where
  k : (Lit.int .u8 x.k).wf = true
  n : (Lit.int .i64 x.n).wf = true
  keep : Ints w (.slice x.ka x.kl x.kc) keep
theorem acts_in {w : World} {l : List ActV} (h : ∀ x ∈ l, ActAt w x) : ∃ K : ActV → List Int, ∀ x ∈ l, ActIn w x (K x) := by
  have H : ∀ x, ∃ k, x ∈ l → ActIn w x k := fun x => by
    by_cases hx : x ∈ l
    · obtain ⟨k, _, hk⟩ := (h x hx).keep
      exact ⟨k, fun _ => ⟨(h x hx).k, (h x hx).n, hk⟩⟩
    · exact ⟨[], fun e => absurd e hx⟩
  exact ⟨fun x => Classical.choose (H x), fun x hx => Classical.choose_spec (H x) hx⟩
theorem ActIn.k0 {w : World} {x : ActV} {keep : List Int} (h : ActIn w x keep) : 0 ≤ x.k := by have := h.k; simp [Lit.wf, IntKind.min, IntKind.max, IntKind.signed, IntKind.bits] at this; omega
theorem ActIn.n1 {w : World} {x : ActV} {keep : List Int} (h : ActIn w x keep) : x.n ≤ 9223372036854775807 := by have := h.n; simp [Lit.wf, IntKind.min, IntKind.max, IntKind.signed, IntKind.bits] at this; omega
section
variable {w0 w : World} {Q : World → (Nat → Prop) → Prop} {vs : List (Value × List Value)} {d : Nat} {D : Dsk.Dk}
theorem both_does (x : ActV) (keep : List Int) (h : Hid (Both w0 (AtDisk d D) Q vs w)) (hx : ActIn w0 x keep) (hst : D.starts ≤ 1000000) {D' : Dsk.Dk} {r : Int} (hR : Dsk.act D x keep = (D', r)) :
    Calls Try.prog 8 #[.pointer (some ⟨d, 0, none⟩), x.val] w fun e w' => e = .returned (.int .i64 r) ∧ Hid (Both w0 (AtDisk d D') Q vs w') :=
  Both.call h hR fun _ h1 h2 => does_any x keep h1 hst hx.k0 hx.n1 (hx.keep.old h.out.bel) (hx.keep.off h2)
theorem both_crash (kv : Value) (keep : List Int) (h : Hid (Both w0 (AtDisk d D) Q vs w)) (hk : Ints w0 kv keep) {D' : Dsk.Dk} {r : Int} (hR : Dsk.crash D keep = (D', r)) :
    Calls Try.prog 24 #[.pointer (some ⟨d, 0, none⟩), kv] w fun e w' => e = .returned (.int .i64 r) ∧ Hid (Both w0 (AtDisk d D') Q vs w') :=
  Both.call h hR fun _ h1 h2 => crash_any kv keep h1 (hk.old h.out.bel) (hk.off h2)
theorem both_start (h : Hid (Both w0 (AtDisk d D) Q vs w)) (hs : D.starts ≤ 1000000) {D' : Dsk.Dk} {r : Int} (hR : Dsk.start D = (D', r)) :
    Calls Try.prog 25 #[.pointer (some ⟨d, 0, none⟩)] w fun e w' => e = .returned (.int .i64 r) ∧ Hid (Both w0 (AtDisk d D') Q vs w') :=
  Both.call h hR fun _ h1 _ => start_any h1 hs
end
end Go.Proofs.Ytceldekbkffhpaa
