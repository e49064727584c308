/-
  What a call may write: all blocks that were there, but those of a set, are as they were. And a disk in memory.
-/
import Derived.Test.YtceldekbkffhpaaDMath
import Derived.OneCell
import Derived.Laws.CopyOwn
import Derived.Lib.AppendStr
namespace Go.Proofs.Ytceldekbkffhpaa
open Go.RowKit
/-- All blocks that were there, but those of S, are as they were. -/
structure Foot (S : Nat → Prop) (w w' : World) : Prop where
  os : w'.os = w.os
  tape : w'.tape = w.tape
  output : w'.output = w.output
  size : w.heap.size ≤ w'.heap.size
  block : ∀ k, k < w.heap.size → ¬ S k → w'.heap[k]? = w.heap[k]?
theorem Foot.refl (S : Nat → Prop) (w : World) : Foot S w w := ⟨rfl, rfl, rfl, Nat.le_refl _, fun _ _ _ => rfl⟩
theorem Foot.trans {S S' : Nat → Prop} {a b c : World} (h : Foot S a b) (k : Foot S' b c) (hS : ∀ i, i < a.heap.size → S' i → S i) : Foot S a c :=
  ⟨k.os.trans h.os, k.tape.trans h.tape, k.output.trans h.output, Nat.le_trans h.size k.size, fun i hi hn => (k.block i (Nat.lt_of_lt_of_le hi h.size) (fun e => hn (hS i hi e))).trans (h.block i hi hn)⟩
theorem Foot.mono {S S' : Nat → Prop} {a b : World} (h : Foot S a b) (hS : ∀ i, i < a.heap.size → S i → S' i) : Foot S' a b :=
  ⟨h.os, h.tape, h.output, h.size, fun i hi hn => h.block i hi (fun e => hn (hS i hi e))⟩
theorem below_foot {S : Nat → Prop} {w w' : World} (h : Below w.heap.size w w') : Foot S w w' := ⟨h.os, h.tape, h.output, h.size, fun k hk _ => h.block k hk⟩
theorem Foot.below {S : Nat → Prop} {B : Nat} {w w' : World} (h : Foot S w w') (hB : ∀ k, k < B → k < w.heap.size ∧ ¬ S k) : Below B w w' :=
  ⟨h.os, h.tape, h.output, h.size, fun k hk => h.block k (hB k hk).1 (hB k hk).2⟩
theorem Foot.grown {w w' : World} {row : Option Nat} (h : w.grownBy w' row) : Foot (fun k => row = some k) w w' :=
  ⟨h.os, h.tape, h.output, h.size, fun k hk hn => h.block k hk (fun e => hn e.symm)⟩
theorem Foot.none {w w' : World} (h : Foot (fun _ => False) w w') : Below w.heap.size w w' := h.below fun _ hk => ⟨hk, fun e => e⟩
theorem Foot.set (S : Nat → Prop) (w : World) (a : Addr) (u : Value) (h : S a.block) : Foot S w (w.setCell a u) :=
  ⟨rfl, rfl, rfl, by simp [World.setCell], fun k _ hn => Below.heap_setCell w a u k (fun e => hn (e ▸ h))⟩
theorem Foot.row (S : Nat → Prop) (w : World) (g : Nat) (cs : Array Value) (h : S g) : Foot S w (w.setRow g cs) :=
  ⟨rfl, rfl, rfl, by simp [World.setRow], fun k _ hn => setRow_other w g k cs (fun e => hn (e ▸ h))⟩
theorem Foot.new (S : Nat → Prop) (w : World) (o : Obj) : Foot S w (w.alloc o) := below_foot ((Below.refl _ w).alloc (Nat.le_refl _) o)
theorem Foot.drew (S : Nat → Prop) (w : World) : Foot S w w.drew := ⟨rfl, rfl, rfl, Nat.le_refl _, fun _ _ _ => rfl⟩
theorem Foot.drewN (S : Nat → Prop) (w : World) (n : Nat) : Foot S w (w.drewN n) := ⟨rfl, rfl, rfl, Nat.le_refl _, fun _ _ _ => rfl⟩
theorem Foot.cell {S : Nat → Prop} {w w' : World} (h : Foot S w w') {p : Addr} (hp : p.block < w.heap.size) (hn : ¬ S p.block) : w'.cell? p = w.cell? p := World.cell?_of_block (h.block p.block hp hn)
theorem Foot.kept {S : Nat → Prop} {w w' : World} (h : Foot S w w') {k : Nat} {o : Obj} (ho : w.heap[k]? = some o) (hn : ¬ S k) : w'.heap[k]? = some o := (h.block k (lt_of_block ho) hn).trans ho
theorem owns_foot {S : Nat → Prop} {w w' : World} {base : Nat} {e : TypeId} {size n : Nat} {v : Value} {xs : List Value} (h : w.ownsRow base e size v n xs) (hf : Foot S w w') (hn : ∀ k, v.ownBlock = some k → ¬ S k) : w'.ownsRow base e size v n xs := by
  refine ⟨h.1, ?_⟩
  rcases h.2 with h' | ⟨g, cap, cur, rfl, hb, hg, rest⟩
  · exact .inl h'
  · exact .inr ⟨g, cap, cur, rfl, hb, hf.kept hg (hn g rfl), rest⟩
theorem owns_lt {w : World} {base : Nat} {e : TypeId} {size n : Nat} {v : Value} {xs : List Value} (h : w.ownsRow base e size v n xs) {k : Nat} (hk : v.ownBlock = some k) : k < w.heap.size := (World.ownsRow.lt h k hk).2
/-- The first few of a row's elements are a row. -/
theorem owns_take {w : World} {base : Nat} {e : TypeId} {size n cap : Nat} {A : Option Addr} {xs : List Value} (h : w.ownsRow base e size (.slice A n cap) n xs) {m : Nat} (hm : m ≤ n) : w.ownsRow base e size (.slice A m cap) m (xs.take (m * size)) := by
  have hle : m * size ≤ n * size := Nat.mul_le_mul_right _ hm
  refine ⟨by rw [List.length_take, h.1]; omega, ?_⟩
  rcases h.2 with ⟨hv, h0⟩ | ⟨g, cap', cur, hv, hb, hg, hnc, hcm, hcs, ht⟩
  · injection hv with h1 h2 h3
    subst h1; subst h2; subst h3
    obtain rfl : m = 0 := by omega
    exact .inl ⟨rfl, rfl⟩
  · injection hv with h1 h2 h3
    subst h1; subst h3
    refine .inr ⟨g, _, cur, rfl, hb, hg, by omega, hcm, hcs, ?_⟩
    rw [← ht, List.take_take, Nat.min_eq_left hle]

/-! ### A disk in memory -/
/-- A file as it stands in memory: its bytes lie in 'bv'. -/
structure MF where
  fl : Dsk.Fl
  bv : Value
/-- Their bytes lie in two blocks. -/
def MF.Apart (f g : MF) : Prop := ∀ k, f.bv.ownBlock = some k → g.bv.ownBlock ≠ some k
theorem MF.Apart.symm {f g : MF} (h : MF.Apart f g) : MF.Apart g f := fun k h1 h2 => h k h2 h1
def MF.cells (f : MF) : List Value := [.string f.fl.name, f.bv, .int .i64 (f.fl.sure : Int)]
def rowCells (fs : List MF) : List Value := fs.flatMap MF.cells
theorem rowCells_len (fs : List MF) : (rowCells fs).length = fs.length * 3 := by
  unfold rowCells
  induction fs with
  | nil => rfl
  | cons f fs ih => rw [List.flatMap_cons, List.length_append, ih, List.length_cons, MF.cells]; simp; omega
theorem rowCells_at (fs : List MF) {i : Nat} (hi : i < fs.length) : (rowCells fs)[i * 3]? = some (.string fs[i].fl.name) ∧ (rowCells fs)[i * 3 + 1]? = some fs[i].bv ∧ (rowCells fs)[i * 3 + 2]? = some (.int .i64 (fs[i].fl.sure : Int)) := by
  unfold rowCells
  induction fs generalizing i with
  | nil => simp at hi
  | cons f fs ih =>
    rcases i with _ | i
    · simp [MF.cells]
    · have := ih (i := i) (by simpa using hi)
      have e : (i + 1) * 3 = i * 3 + 1 + 1 + 1 := by omega
      simpa [MF.cells, e] using this
def byteV (b : UInt8) : Value := .int .u8 (b.toNat : Int)
def Bytes (w : World) (v : Value) (l : List UInt8) : Prop := w.ownsRow 0 5 1 v l.length (l.map byteV)
/-- The files of a disk: a row of threes at 'v', each one's bytes in a row of their own; 'd' is none of these. -/
structure Files (w : World) (d : Nat) (v : Value) (fs : List MF) : Prop where
  row : w.ownsRow 0 62 3 v fs.length (rowCells fs)
  bytes : ∀ f ∈ fs, Bytes w f.bv f.fl.data
  apart : fs.Pairwise MF.Apart
  off : ∀ f ∈ fs, ∀ k, f.bv.ownBlock = some k → k ≠ d ∧ v.ownBlock ≠ some k
  offd : v.ownBlock ≠ some d
  sure : ∀ f ∈ fs, f.fl.sure ≤ f.fl.data.length
def Head (w : World) (d : Nat) (cap : Nat) (v : Value) (down : Bool) (starts : Nat) (left : Int) (fv : Value) : Prop :=
  w.heap[d]? = some (.cells #[.int .i64 (cap : Int), v, .bool down, .int .i64 (starts : Int), .int .i64 left, fv] 51 (0, 0))
/-- What of memory belongs to the files. -/
def OfFiles (d : Nat) (v : Value) (fs : List MF) (k : Nat) : Prop := k = d ∨ v.ownBlock = some k ∨ ∃ f ∈ fs, f.bv.ownBlock = some k
theorem Try.info_file : (Try.prog.info? 62).map (fun i => (i.zero, i.size, i.bytes)) = some (some (.agg #[.string ⟨#[]⟩, .slice none 0 0, .int .i64 0]), 3, 48) := by kernel_rfl
theorem Try.info_u8 : (Try.prog.info? 5).map (fun i => (i.zero, i.size, i.bytes)) = some (some (.int .u8 0), 1, 1) := by kernel_rfl
theorem Try.info_int : (Try.prog.info? 3).map (fun i => (i.zero, i.size, i.bytes)) = some (some (.int .i64 0), 1, 8) := by kernel_rfl
theorem Try.info_str : (Try.prog.info? 9).map (fun i => (i.zero, i.size, i.bytes)) = some (some (.string ⟨#[]⟩), 1, 16) := by kernel_rfl
theorem Head.cells {w : World} {d cap : Nat} {v : Value} {down : Bool} {starts : Nat} {left : Int} {fv : Value} (h : Head w d cap v down starts left fv) :
    w.cell? ⟨d, 0, none⟩ = some (.int .i64 (cap : Int)) ∧ w.cell? ⟨d, 1, none⟩ = some v ∧ w.cell? ⟨d, 2, none⟩ = some (.bool down) ∧ w.cell? ⟨d, 3, none⟩ = some (.int .i64 (starts : Int)) ∧
    w.cell? ⟨d, 4, none⟩ = some (.int .i64 left) ∧ w.cell? ⟨d, 5, none⟩ = some fv ∧ ∀ o, w.frozen? ⟨d, o, none⟩ = false := by
  unfold Head at h
  refine ⟨?_, ?_, ?_, ?_, ?_, ?_, fun o => frozen_of_row w d o _ _ h⟩ <;> (rw [cell_of_row w d _ _ _ _ h]; rfl)
theorem Head.lt {w : World} {d cap : Nat} {v : Value} {down : Bool} {starts : Nat} {left : Int} {fv : Value} (h : Head w d cap v down starts left fv) : d < w.heap.size := lt_of_block h
theorem Head.foot {S : Nat → Prop} {w w' : World} {d cap : Nat} {v : Value} {down : Bool} {starts : Nat} {left : Int} {fv : Value} (h : Head w d cap v down starts left fv) (hf : Foot S w w') (hn : ¬ S d) : Head w' d cap v down starts left fv := hf.kept h hn
theorem Files.foot {S : Nat → Prop} {w w' : World} {d : Nat} {v : Value} {fs : List MF} (h : Files w d v fs) (hf : Foot S w w') (hn : ∀ k, OfFiles d v fs k → ¬ S k) : Files w' d v fs :=
  ⟨owns_foot h.row hf fun k hk => hn k (.inr (.inl hk)), fun f hm => owns_foot (h.bytes f hm) hf fun k hk => hn k (.inr (.inr ⟨f, hm, hk⟩)), h.apart, h.off, h.offd, h.sure⟩
/-- The cells of the file at a place. -/
theorem Files.at_ {w : World} {d : Nat} {v : Value} {fs : List MF} (h : Files w d v fs) {i : Nat} (hi : i < fs.length) :
    ∃ g c, v = .slice (some ⟨g, 0, none⟩) fs.length c ∧ fs.length ≤ c ∧ g ≠ d ∧ g < w.heap.size ∧ w.cell? ⟨g, i * 3, none⟩ = some (.string fs[i].fl.name) ∧ w.cell? ⟨g, i * 3 + 1, none⟩ = some fs[i].bv ∧ w.cell? ⟨g, i * 3 + 2, none⟩ = some (.int .i64 (fs[i].fl.sure : Int)) ∧ ∀ o, w.frozen? ⟨g, o, none⟩ = false := by
  have hr := h.row
  rcases hr.2 with ⟨hv, h0⟩ | ⟨g, cap, cur, rfl, hb, hg, hnc, hcm, hcs, ht⟩
  · omega
  · obtain ⟨c1, c2, c3⟩ := rowCells_at fs hi
    refine ⟨g, cap, rfl, hnc, fun e => h.offd (by rw [← e]; rfl), lt_of_block hg, ?_, ?_, ?_, fun o => frozen_of_row w g o _ _ hg⟩
    · rw [World.ownsRow.cellAt hr _ (by omega), c1]
    · rw [World.ownsRow.cellAt hr _ (by omega), c2]
    · rw [World.ownsRow.cellAt hr _ (by omega), c3]
theorem Files.len {w : World} {d : Nat} {v : Value} {fs : List MF} (h : Files w d v fs) : ∃ A c, v = .slice A fs.length c ∧ fs.length ≤ c ∧ c ≤ maxLen ∧ (A = none → fs.length = 0 ∧ c = 0) := by
  rcases h.row.2 with ⟨rfl, h0⟩ | ⟨g, cap, cur, rfl, hb, hg, hnc, hcm, hcs, ht⟩
  · exact ⟨none, 0, by rw [h0], by omega, Nat.zero_le _, fun _ => ⟨h0, rfl⟩⟩
  · exact ⟨_, cap, rfl, hnc, hcm, fun e => by cases e⟩
theorem Bytes.val {w : World} {v : Value} {l : List UInt8} (h : Bytes w v l) : ∃ A c, v = .slice A l.length c ∧ l.length ≤ c ∧ c ≤ maxLen ∧ (A = none → l.length = 0 ∧ c = 0) := by
  rcases h.2 with ⟨rfl, h0⟩ | ⟨g, cap, cur, rfl, hb, hg, hnc, hcm, hcs, ht⟩
  · exact ⟨none, 0, by rw [h0], by omega, Nat.zero_le _, fun _ => ⟨h0, rfl⟩⟩
  · exact ⟨_, cap, rfl, hnc, hcm, fun e => by cases e⟩
/-- A world that parts from another in draws alone. -/
theorem eqv_foot {S : Nat → Prop} {w w' : World} (h1 : w'.heap = w.heap) (h2 : w'.os = w.os) (h3 : w'.tape = w.tape) (h4 : w'.output = w.output) : Foot S w w' :=
  ⟨h2, h3, h4, by rw [h1]; exact Nat.le_refl _, fun k _ _ => by rw [h1]⟩
/-- Another file in the place of one: all others as they were. -/
theorem Files.put {S : Nat → Prop} {w w' : World} {d : Nat} {v : Value} {fs : List MF} (h : Files w d v fs) {i : Nat} (hi : i < fs.length) (f : MF) (hr : w'.ownsRow 0 62 3 v fs.length (rowCells (fs.set i f)))
    (hb : Bytes w' f.bv f.fl.data) (hk : ∀ k, f.bv.ownBlock = some k → fs[i].bv.ownBlock = some k ∨ w.heap.size ≤ k) (hs : f.fl.sure ≤ f.fl.data.length) (hd : d < w.heap.size)
    (hf : Foot S w w') (hS : ∀ k, k < w.heap.size → S k → k = d ∨ v.ownBlock = some k ∨ fs[i].bv.ownBlock = some k) : Files w' d v (fs.set i f) := by
  have hlt : ∀ j (hj : j < fs.length) k, fs[j].bv.ownBlock = some k → k < w.heap.size := fun j hj k e => owns_lt (h.bytes _ (List.getElem_mem hj)) e
  have hap := List.pairwise_iff_getElem.1 h.apart
  have hvl : ∀ k, v.ownBlock = some k → k < w.heap.size := fun k e => owns_lt h.row e
  have far : ∀ j (hj : j < fs.length), j ≠ i → ∀ k, fs[j].bv.ownBlock = some k → f.bv.ownBlock ≠ some k ∧ fs[i].bv.ownBlock ≠ some k := fun j hj hne k e => by
    have h1 : fs[i].bv.ownBlock ≠ some k := by
      rcases Nat.lt_or_gt_of_ne hne with hlt' | hlt'
      · exact hap j i hj hi hlt' k e
      · exact fun e' => hap i j hi hj hlt' k e' e
    refine ⟨fun e' => ?_, h1⟩
    rcases hk k e' with h2 | h2
    · exact h1 h2
    · have := hlt j hj k e; omega
  have mem : ∀ g ∈ fs.set i f, g = f ∨ ∃ j, ∃ hj : j < fs.length, j ≠ i ∧ g = fs[j] := fun g hg => by
    obtain ⟨j, hj, rfl⟩ := List.getElem_of_mem hg
    rw [List.length_set] at hj
    by_cases hji : i = j
    · subst hji; left; simp
    · right; exact ⟨j, hj, fun e => hji e.symm, by rw [List.getElem_set_ne hji]⟩
  refine ⟨by rw [List.length_set]; exact hr, fun g hg => ?_, List.pairwise_iff_getElem.2 fun a b ha hb' hab => ?_, fun g hg k e => ?_, h.offd, fun g hg => ?_⟩
  · rcases mem g hg with rfl | ⟨j, hj, hne, rfl⟩
    · exact hb
    · refine owns_foot (h.bytes _ (List.getElem_mem hj)) hf fun k e hsk => ?_
      obtain ⟨h1, h2⟩ := h.off _ (List.getElem_mem hj) k e
      rcases hS k (hlt j hj k e) hsk with h3 | h3 | h3
      · exact h1 h3
      · exact h2 h3
      · exact (far j hj hne k e).2 h3
  · rw [List.length_set] at ha hb'
    by_cases hai : i = a
    · subst hai
      rw [List.getElem_set_self, List.getElem_set_ne (by omega)]
      exact MF.Apart.symm fun k e => (far b hb' (by omega) k e).1
    · by_cases hbi : i = b
      · subst hbi
        rw [List.getElem_set_self, List.getElem_set_ne hai]
        exact fun k e => (far a ha (fun e => hai e.symm) k e).1
      · rw [List.getElem_set_ne hai, List.getElem_set_ne hbi]
        exact hap a b ha hb' hab
  · rcases mem g hg with rfl | ⟨j, hj, hne, rfl⟩
    · rcases hk k e with h1 | h1
      · exact h.off _ (List.getElem_mem hi) k h1
      · exact ⟨fun e => by omega, fun e => by have := hvl k e; omega⟩
    · exact h.off _ (List.getElem_mem hj) k e
  · rcases mem g hg with rfl | ⟨j, hj, hne, rfl⟩
    · exact hs
    · exact h.sure _ (List.getElem_mem hj)
theorem rowCells_set (fs : List MF) {i : Nat} (hi : i < fs.length) (f : MF) (hn : f.fl.name = fs[i].fl.name) : rowCells (fs.set i f) = ((rowCells fs).set (i * 3 + 2) (.int .i64 (f.fl.sure : Int))).set (i * 3 + 1) f.bv := by
  unfold rowCells
  induction fs generalizing i with
  | nil => simp at hi
  | cons a fs ih =>
    rcases i with _ | i
    · simp only [List.getElem_cons_zero] at hn
      simp [MF.cells, hn]
    · have := ih (i := i) (by simpa using hi) (by simpa using hn)
      have e1 : (i + 1) * 3 + 2 = i * 3 + 2 + 1 + 1 + 1 := by omega
      have e2 : (i + 1) * 3 + 1 = i * 3 + 1 + 1 + 1 + 1 := by omega
      simp only [List.set_cons_succ, List.flatMap_cons, this]
      rw [e1, e2]
      simp [MF.cells]
def MF.names (fs : List MF) : List ByteArray := Dsk.names (fs.map MF.fl)
theorem MF.names_len (fs : List MF) : (MF.names fs).length = fs.length := by simp [MF.names, Dsk.names]
theorem MF.names_at (fs : List MF) {i : Nat} (hi : i < fs.length) : (MF.names fs)[i]'(by rw [MF.names_len]; exact hi) = fs[i].fl.name := by simp [MF.names, Dsk.names]
end Go.Proofs.Ytceldekbkffhpaa
