/-
  Messages as they stand in memory.
-/
import Derived.Test.YtlejlmlgcehjiaaNMath
import Derived.Test.YtlejlmlgcehjiaaNRow
namespace Go.Proofs.Ytlejlmlgcehjiaa
open Go.RowKit
def ecells (e : Net.Ent) : List Value := [.int .i64 e.ep, .int .i64 e.oi, .int .i64 e.os, .int .i64 e.ox, .int .i64 e.ok, .int .i64 e.oa]
def ecs (es : List Net.Ent) : List Value := es.flatMap ecells
def mcells (h : Net.Hd) (v : Value) : List Value :=
  [.int .i64 h.ki, .int .i64 h.fr, .int .i64 h.tt, .int .i64 h.st, .int .i64 h.ep, .int .i64 h.vi, .int .i64 h.ba, .int .i64 h.le, .int .i64 h.sp, v,
   .int .i64 h.oi, .int .i64 h.os, .int .i64 h.ox, .int .i64 h.ok, .int .i64 h.oa, .int .i64 h.ai, .int .i64 h.ac, .int .i64 h.av]
def mval (h : Net.Hd) (v : Value) : Value := .agg (mcells h v).toArray
/-- A message as it stands in memory: its entries lie in 'v'. -/
structure MM where
  h : Net.Hd
  v : Value
  es : List Net.Ent
def MM.ml (m : MM) : Net.Ml := ⟨m.h, m.es⟩
def MM.cells (m : MM) : List Value := mcells m.h m.v
def mcs (ms : List MM) : List Value := ms.flatMap MM.cells
theorem ecs_len (es : List Net.Ent) : (ecs es).length = es.length * 6 := by
  unfold ecs
  induction es with
  | nil => rfl
  | cons e es ih => rw [List.flatMap_cons, List.length_append, ih, List.length_cons, ecells]; simp; omega
theorem mcs_len (ms : List MM) : (mcs ms).length = ms.length * 18 := by
  unfold mcs
  induction ms with
  | nil => rfl
  | cons m ms ih => rw [List.flatMap_cons, List.length_append, ih, List.length_cons, MM.cells, mcells]; simp; omega
theorem mcs_append (a b : List MM) : mcs (a ++ b) = mcs a ++ mcs b := by simp [mcs]
theorem ecs_append (a b : List Net.Ent) : ecs (a ++ b) = ecs a ++ ecs b := by simp [ecs]
theorem ecs_one (es : List Net.Ent) : ∀ u ∈ ecs es, u.oneCell' = true := by
  intro u hu
  obtain ⟨e, _, he⟩ := List.mem_flatMap.1 hu
  simp only [ecells, List.mem_cons, List.not_mem_nil, or_false] at he
  rcases he with rfl | rfl | rfl | rfl | rfl | rfl <;> rfl
theorem mcells_one (h : Net.Hd) {v : Value} (hv : v.oneCell' = true) : ∀ u ∈ mcells h v, u.oneCell' = true := by
  intro u hu
  simp only [mcells, List.mem_cons, List.not_mem_nil, or_false] at hu
  rcases hu with rfl | rfl | rfl | rfl | rfl | rfl | rfl | rfl | rfl | rfl | rfl | rfl | rfl | rfl | rfl | rfl | rfl | rfl <;> first | rfl | exact hv
theorem mcs_at (ms : List MM) {i : Nat} (hi : i < ms.length) {j : Nat} (hj : j < 18) : (mcs ms)[i * 18 + j]? = ms[i].cells[j]? := by
  unfold mcs
  induction ms generalizing i with
  | nil => simp at hi
  | cons m ms ih =>
    have hl : m.cells.length = 18 := rfl
    rcases i with _ | i
    · rw [List.flatMap_cons, List.getElem?_append_left (by omega), Nat.zero_mul, Nat.zero_add]; rfl
    · rw [List.flatMap_cons, List.getElem?_append_right (by omega), hl, show (i + 1) * 18 + j - 18 = i * 18 + j by omega, ih (by simpa using hi)]; rfl
theorem ecs_at (es : List Net.Ent) {i : Nat} (hi : i < es.length) {j : Nat} (hj : j < 6) : (ecs es)[i * 6 + j]? = (ecells es[i])[j]? := by
  unfold ecs
  induction es generalizing i with
  | nil => simp at hi
  | cons m ms ih =>
    have hl : (ecells m).length = 6 := rfl
    rcases i with _ | i
    · rw [List.flatMap_cons, List.getElem?_append_left (by omega), Nat.zero_mul, Nat.zero_add]; rfl
    · rw [List.flatMap_cons, List.getElem?_append_right (by omega), hl, show (i + 1) * 6 + j - 6 = i * 6 + j by omega, ih (by simpa using hi)]; rfl
theorem mcs_take (ms : List MM) (i : Nat) (hi : i ≤ ms.length) : (mcs ms).take (i * 18) = mcs (ms.take i) ∧ (mcs ms).drop (i * 18) = mcs (ms.drop i) := by
  have h := mcs_append (ms.take i) (ms.drop i)
  rw [List.take_append_drop] at h
  have hl : (mcs (ms.take i)).length = i * 18 := by rw [mcs_len, List.length_take, Nat.min_eq_left hi]
  exact ⟨by rw [h]; exact List.take_left' hl, by rw [h]; exact List.drop_left' hl⟩
/-- A slice that reads as these entries, whoever's it is. -/
def Ents (w : World) (v : Value) (es : List Net.Ent) : Prop :=
  ∃ A c, v = .slice A es.length c ∧ es.length ≤ c ∧ c ≤ maxLen ∧ (A = none → es.length = 0 ∧ c = 0) ∧ (0 < es.length → ∃ b o, A = some ⟨b, o, none⟩ ∧ b < w.heap.size ∧ ∀ j u, (ecs es)[j]? = some u → w.cell? ⟨b, o + j, none⟩ = some u)
/-- A row of one's own of these entries. -/
def EOwn (w : World) (base : Nat) (v : Value) (es : List Net.Ent) : Prop := w.ownsRow base 40 6 v es.length (ecs es)
theorem EOwn.ents {w : World} {base : Nat} {v : Value} {es : List Net.Ent} (h : EOwn w base v es) : Ents w v es := by
  have h' := h
  rcases h.2 with ⟨rfl, h0⟩ | ⟨g, cap, cur, rfl, hb, hg, hnc, hcm, hcs, ht⟩
  · exact ⟨none, 0, by rw [h0], by omega, Nat.zero_le _, fun _ => ⟨h0, rfl⟩, fun e => by omega⟩
  · refine ⟨_, cap, rfl, hnc, hcm, (fun e => by cases e), fun _ => ⟨g, 0, rfl, lt_of_block hg, fun j u hu => ?_⟩⟩
    have hj : j < es.length * 6 := by rw [← ecs_len]; exact (List.getElem?_eq_some_iff.1 hu).1
    rw [Nat.zero_add, World.ownsRow.cellAt h' j hj, hu]
theorem Ents.foot {S : Nat → Prop} {w w' : World} {v : Value} {es : List Net.Ent} (h : Ents w v es) (hf : Foot S w w') (hn : ∀ k, 0 < es.length → v.ownBlock = some k → ¬ S k) : Ents w' v es := by
  obtain ⟨A, c, rfl, h1, h2, h3, h4⟩ := h
  refine ⟨A, c, rfl, h1, h2, h3, fun h0 => ?_⟩
  obtain ⟨b, o, rfl, hb, hc⟩ := h4 h0
  exact ⟨b, o, rfl, Nat.lt_of_lt_of_le hb hf.size, fun j u hu => (hf.cell (p := ⟨b, o + j, none⟩) hb (hn b h0 rfl)).trans (hc j u hu)⟩
theorem Ents.below {w w' : World} {v : Value} {es : List Net.Ent} (h : Ents w v es) (hb : Below w.heap.size w w') : Ents w' v es := h.foot (below_foot hb : Foot (fun _ => False) w w') fun _ _ _ e => e
theorem Ents.len {w : World} {v : Value} {es : List Net.Ent} (h : Ents w v es) : ∃ A c, v = .slice A es.length c ∧ es.length ≤ c ∧ c ≤ maxLen ∧ (A = none → es.length = 0 ∧ c = 0) := by
  obtain ⟨A, c, h1, h2, h3, h4, _⟩ := h
  exact ⟨A, c, h1, h2, h3, h4⟩
theorem EOwn.nil (w : World) (base : Nat) : EOwn w base (.slice none 0 0) [] := World.ownsRow_nil _ _ _ _
theorem Try.info_entry : (Try.prog.info? 40).map (fun i => (i.zero, i.size, i.bytes)) = some (some (.agg #[.int .i64 0, .int .i64 0, .int .i64 0, .int .i64 0, .int .i64 0, .int .i64 0]), 6, 48) := by kernel_rfl
theorem Try.info_mail : (Try.prog.info? 36).map (fun i => (i.zero, i.size, i.bytes)) = some (some (mval Net.hd0 (.slice none 0 0)), 18, 160) := by kernel_rfl
end Go.Proofs.Ytlejlmlgcehjiaa
