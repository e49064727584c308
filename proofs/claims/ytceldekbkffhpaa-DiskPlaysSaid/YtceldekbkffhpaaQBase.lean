/-
  The document's disk in memory: its head, its files in a row of threes, what a failure would keep.
-/
import Derived.Test.YtceldekbkffhpaaDGood
import Derived.Test.YtceldekbkffhpaaDDown
import Derived.Test.YtceldekbkffhpaaDQuiet
namespace Go.Proofs.Ytceldekbkffhpaa
open Go.RowKit
def str (l : List UInt8) : ByteArray := ⟨l.toArray⟩
theorem str_size (l : List UInt8) : (str l).size = l.length := by simp [str, ByteArray.size]
theorem str_take (l : List UInt8) (k : Nat) : str (l.take k) = (str l).extract 0 k := by
  apply ByteArray.ext
  apply Array.toList_inj.1
  rw [Lib.extract_data]
  simp [str]
theorem str_append (l : List UInt8) (s : ByteArray) : str l ++ s = str (l ++ s.data.toList) := by
  apply ByteArray.ext
  apply Array.toList_inj.1
  simp [str, ByteArray.data_append]
theorem str_nil : str [] = ByteArray.empty := rfl
def qCells (f : Dsk.Fl) : List Value := [.string f.name, .string (str f.data), .int .i64 (f.sure : Int)]
def qRow (fs : List Dsk.Fl) : List Value := fs.flatMap qCells
theorem qRow_len (fs : List Dsk.Fl) : (qRow fs).length = fs.length * 3 := by
  unfold qRow
  induction fs with
  | nil => rfl
  | cons f fs ih => rw [List.flatMap_cons, List.length_append, ih, List.length_cons, qCells]; simp; omega
theorem qRow_append (a b : List Dsk.Fl) : qRow (a ++ b) = qRow a ++ qRow b := by simp [qRow]
theorem qRow_at (fs : List Dsk.Fl) {i : Nat} (hi : i < fs.length) : (qRow fs)[i * 3]? = some (.string fs[i].name) ∧ (qRow fs)[i * 3 + 1]? = some (.string (str fs[i].data)) ∧ (qRow fs)[i * 3 + 2]? = some (.int .i64 (fs[i].sure : Int)) := by
  unfold qRow
  induction fs generalizing i with
  | nil => simp at hi
  | cons f fs ih =>
    rcases i with _ | i
    · simp [qCells]
    · have := ih (i := i) (by simpa using hi)
      have e : (i + 1) * 3 = i * 3 + 1 + 1 + 1 := by omega
      simpa [qCells, e] using this
theorem qRow_set (fs : List Dsk.Fl) {i : Nat} (hi : i < fs.length) (g : Dsk.Fl → Dsk.Fl) (hn : (g fs[i]).name = fs[i].name) :
    qRow (fs.modify i g) = ((qRow fs).set (i * 3 + 1) (.string (str (g fs[i]).data))).set (i * 3 + 2) (.int .i64 ((g fs[i]).sure : Int)) := by
  unfold qRow
  induction fs generalizing i with
  | nil => simp at hi
  | cons a fs ih =>
    rcases i with _ | i
    · simp only [List.getElem_cons_zero] at hn
      simp [qCells, hn]
    · have := ih (i := i) (by simpa using hi) (by simpa using hn)
      have e1 : (i + 1) * 3 + 2 = i * 3 + 2 + 1 + 1 + 1 := by omega
      have e2 : (i + 1) * 3 + 1 = i * 3 + 1 + 1 + 1 + 1 := by omega
      simp only [List.modify_succ_cons, List.flatMap_cons, List.getElem_cons_succ, this]
      rw [e1, e2]
      simp [qCells]
theorem set_same {α : Type} (l : List α) (i : Nat) (x : α) (h : l[i]? = some x) : l.set i x = l := by
  apply List.ext_getElem?
  intro j
  rw [List.getElem?_set]
  by_cases hij : i = j
  · subst hij
    rw [if_pos rfl, h]
    obtain ⟨hlt, _⟩ := List.getElem?_eq_some_iff.1 h
    simp [hlt]
  · rw [if_neg hij]
def QHead (w : World) (d cap starts : Nat) (down : Bool) (v : Value) (set : Bool) (left : Nat) (kv : Value) : Prop :=
  w.heap[d]? = some (.cells #[.int .i64 (cap : Int), .int .i64 (starts : Int), .bool down, v, .bool set, .int .i64 (left : Int), kv] 47 (0, 0))
theorem QHead.cells {w : World} {d cap starts left : Nat} {v kv : Value} {down set : Bool} (h : QHead w d cap starts down v set left kv) :
    w.cell? ⟨d, 0, none⟩ = some (.int .i64 (cap : Int)) ∧ w.cell? ⟨d, 1, none⟩ = some (.int .i64 (starts : Int)) ∧ w.cell? ⟨d, 2, none⟩ = some (.bool down) ∧ w.cell? ⟨d, 3, none⟩ = some v ∧
    w.cell? ⟨d, 4, none⟩ = some (.bool set) ∧ w.cell? ⟨d, 5, none⟩ = some (.int .i64 (left : Int)) ∧ w.cell? ⟨d, 6, none⟩ = some kv ∧ ∀ o, w.frozen? ⟨d, o, none⟩ = false := by
  unfold QHead at h
  refine ⟨?_, ?_, ?_, ?_, ?_, ?_, ?_, fun o => frozen_of_row w d o _ _ h⟩ <;> (rw [cell_of_row w d _ _ _ _ h]; rfl)
theorem QHead.foot {S : Nat → Prop} {w w' : World} {d cap starts left : Nat} {v kv : Value} {down set : Bool} (h : QHead w d cap starts down v set left kv) (hf : Foot S w w') (hn : ¬ S d) : QHead w' d cap starts down v set left kv := hf.kept h hn
/-- The document's disk. -/
structure QAt (w : World) (d : Nat) (D : Dsk.Dk) (S : Nat → Prop) (v : Value) (set : Bool) (left : Nat) (kv : Value) (K : List Int) : Prop where
  head : QHead w d D.cap D.starts D.down v set left kv
  row : w.ownsRow 0 67 3 v D.fs.length (qRow D.fs)
  keep : Ints w kv K
  klen : K.length ≤ 1000000
  lmax : left ≤ 9223372036854775807
  fail : D.fail = if set then some (left, K.take 16) else none
  offd : v.ownBlock ≠ some d
  koff : ∀ k, kv.ownBlock = some k → k ≠ d ∧ v.ownBlock ≠ some k
  kin : ∀ k, kv.ownBlock = some k → k < w.heap.size ∧ S k
  vin : ∀ k, v.ownBlock = some k → S k
  din : S d
  lt : ∀ k, S k → k < w.heap.size
  good : Dsk.Good D
def IsQ (w : World) (d : Nat) (D : Dsk.Dk) (S : Nat → Prop) : Prop := ∃ v set left kv K, QAt w d D S v set left kv K
section
variable {w w' : World} {d : Nat} {D : Dsk.Dk} {S : Nat → Prop} {v kv : Value} {set : Bool} {left : Nat} {K : List Int}
theorem QAt.foot {S' : Nat → Prop} (h : QAt w d D S v set left kv K) (hf : Foot S' w w') (hn : ∀ k, S k → ¬ S' k) : QAt w' d D S v set left kv K :=
  ⟨h.head.foot hf (hn d h.din), owns_foot h.row hf fun k hk => hn k (h.vin k hk), h.keep.foot hf fun k hk => hn k (h.kin k hk).2, h.klen, h.lmax, h.fail, h.offd, h.koff, fun k hk => ⟨Nat.lt_of_lt_of_le (h.kin k hk).1 hf.size, (h.kin k hk).2⟩, h.vin, h.din, fun k hk => Nat.lt_of_lt_of_le (h.lt k hk) hf.size, h.good⟩
theorem QAt.below (h : QAt w d D S v set left kv K) (hb : Below w.heap.size w w') : QAt w' d D S v set left kv K := h.foot (below_foot (S := fun _ => False) hb) fun _ _ e => e
theorem IsQ.foot {S' : Nat → Prop} (h : IsQ w d D S) (hf : Foot S' w w') (hn : ∀ k, S k → ¬ S' k) : IsQ w' d D S := by
  obtain ⟨v, set, left, kv, K, h⟩ := h
  exact ⟨v, set, left, kv, K, h.foot hf hn⟩
theorem IsQ.below (h : IsQ w d D S) (hb : Below w.heap.size w w') : IsQ w' d D S := h.foot (below_foot (S := fun _ => False) hb) fun _ _ e => e
theorem IsQ.lt (h : IsQ w d D S) : ∀ k, S k → k < w.heap.size := by
  obtain ⟨v, set, left, kv, K, h⟩ := h
  exact h.lt
theorem IsQ.good (h : IsQ w d D S) : Dsk.Good D := by
  obtain ⟨v, set, left, kv, K, h⟩ := h
  exact h.good
theorem IsQ.own (h : IsQ w d D S) : S d := by
  obtain ⟨v, set, left, kv, K, h⟩ := h
  exact h.din
/-- What a call did to the document's disk. -/
def DidQ (w : World) (d : Nat) (S : Nat → Prop) (R : Dsk.Dk × Int) (r : Int) (w' : World) : Prop :=
  r = R.2 ∧ ∃ S', IsQ w' d R.1 S' ∧ Foot S w w' ∧ ∀ k, S' k → S k ∨ w.heap.size ≤ k
theorem DidQ.same (h : IsQ w d D S) (r : Int) (hb : Below w.heap.size w w') : DidQ w d S (D, r) r w' := ⟨rfl, S, h.below hb, below_foot hb, fun _ hk => .inl hk⟩
theorem QAt.few (h : QAt w d D S v set left kv K) : D.fs.length ≤ 16 := h.good.few
/-- The cells of the file at a place. -/
theorem QAt.at_ (h : QAt w d D S v set left kv K) {i : Nat} (hi : i < D.fs.length) :
    ∃ g c, v = .slice (some ⟨g, 0, none⟩) D.fs.length c ∧ D.fs.length ≤ c ∧ c ≤ maxLen ∧ g ≠ d ∧ g < w.heap.size ∧ w.cell? ⟨g, i * 3, none⟩ = some (.string D.fs[i].name) ∧ w.cell? ⟨g, i * 3 + 1, none⟩ = some (.string (str D.fs[i].data)) ∧ w.cell? ⟨g, i * 3 + 2, none⟩ = some (.int .i64 (D.fs[i].sure : Int)) ∧ ∀ o, w.frozen? ⟨g, o, none⟩ = false := by
  have hr := h.row
  have ho := h.offd
  rcases hr.2 with ⟨hv, h0⟩ | ⟨g, cap, cur, hv, hb, hg, hnc, hcm, hcs, ht⟩
  · omega
  · obtain ⟨c1, c2, c3⟩ := qRow_at D.fs hi
    subst hv
    refine ⟨g, cap, rfl, hnc, hcm, fun e => ho (by rw [← e]; rfl), lt_of_block hg, ?_, ?_, ?_, fun o => frozen_of_row w g o _ _ hg⟩
    · rw [World.ownsRow.cellAt hr _ (by omega), c1]
    · rw [World.ownsRow.cellAt hr _ (by omega), c2]
    · rw [World.ownsRow.cellAt hr _ (by omega), c3]
theorem QAt.len (h : QAt w d D S v set left kv K) : ∃ A c, v = .slice A D.fs.length c ∧ D.fs.length ≤ c ∧ c ≤ maxLen ∧ (A = none → D.fs.length = 0 ∧ c = 0) := by
  rcases h.row.2 with ⟨rfl, h0⟩ | ⟨g, cap, cur, rfl, hb, hg, hnc, hcm, hcs, ht⟩
  · exact ⟨none, 0, by rw [h0], by omega, Nat.zero_le _, fun _ => ⟨h0, rfl⟩⟩
  · exact ⟨_, cap, rfl, hnc, hcm, fun e => by cases e⟩
theorem Try.info_qfile : (Try.prog.info? 67).map (fun i => (i.zero, i.size, i.bytes)) = some (some (.agg #[.string ⟨#[]⟩, .string ⟨#[]⟩, .int .i64 0]), 3, 40) := by kernel_rfl
theorem qname_any (s : ByteArray) (w : World) : Calls Try.prog 62 #[.string s] w fun e w' => e = .returned (.bool (Dsk.isNm s)) ∧ w = w' := by
  by_cases h1 : 1 ≤ s.size
  · by_cases h2 : s.size ≤ 16
    · have HC : Hid (Dsk.isNm s = true) := by unfold Hid Dsk.isNm; simp [h1, h2]
      have t2 : decide ((s.size : Int) ≤ 16) = true := decide_eq_true (by omega)
      go_enter Try.func62, Try.ntmps62
      go_wp2
      go_ret
      exact ⟨by rw [HC.out]; rfl, rfl⟩
    · have HC : Hid (Dsk.isNm s = false) := by unfold Hid Dsk.isNm; simp [h1, h2]
      have t2 : decide ((s.size : Int) ≤ 16) = false := decide_eq_false (by omega)
      go_enter Try.func62, Try.ntmps62
      go_wp2
      go_ret
      exact ⟨by rw [HC.out]; rfl, rfl⟩
  · have HC : Hid (Dsk.isNm s = false) := by unfold Hid Dsk.isNm; simp [h1]
    have t2 : decide (1 ≤ (s.size : Int)) = false := decide_eq_false (by omega)
    go_enter Try.func62, Try.ntmps62
    go_wp2
    go_ret
    exact ⟨by rw [HC.out]; rfl, rfl⟩
end
end Go.Proofs.Ytceldekbkffhpaa
