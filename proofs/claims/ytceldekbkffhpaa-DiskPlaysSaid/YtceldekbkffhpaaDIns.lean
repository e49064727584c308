/-
  A file comes to its place among the others.
-/
import Derived.Test.YtceldekbkffhpaaDRemove
import Derived.Deep.RegionHeld3
namespace Go.Proofs.Ytceldekbkffhpaa
open Go.RowKit
section
variable {w w' : World} {d : Nat} {D : Dsk.Dk} {S T : Nat → Prop} {v : Value} {fs : List MF} {left : Int} {fv : Value}
theorem ins_split (fs : List MF) (p : Nat) (hp : p ≤ fs.length) (m : MF) : fs.insertIdx p m = fs.take p ++ m :: fs.drop p := by
  induction fs generalizing p with
  | nil =>
    obtain rfl : p = 0 := by simpa using hp
    rfl
  | cons a fs ih =>
    rcases p with _ | p
    · rfl
    · rw [List.insertIdx_succ_cons, ih p (by simpa using hp)]; rfl
theorem rowCells_insert (fs : List MF) (p : Nat) (hp : p ≤ fs.length) (m : MF) : rowCells (fs.insertIdx p m) = (rowCells fs).take (p * 3) ++ m.cells ++ (rowCells fs).drop (p * 3) := by
  rw [(rowCells_split fs p hp).1, (rowCells_split fs p hp).2]
  have e : fs.insertIdx p m = fs.take p ++ ([m] ++ fs.drop p) := by
    rw [ins_split fs p hp]; simp
  rw [e, rowCells_append, rowCells_append, ← List.append_assoc]
  simp [rowCells]
theorem pairwise_insert {R : MF → MF → Prop} (hsym : ∀ a b, R a b → R b a) {fs : List MF} (h : fs.Pairwise R) (m : MF) (hm : ∀ f ∈ fs, R f m) (p : Nat) (hp : p ≤ fs.length) : (fs.insertIdx p m).Pairwise R := by
  rw [ins_split fs p hp]
  have h' : (fs.take p ++ fs.drop p).Pairwise R := by rw [List.take_append_drop]; exact h
  rw [List.pairwise_append] at h' ⊢
  refine ⟨h'.1, List.pairwise_cons.2 ⟨fun f hf => hsym _ _ (hm f (List.drop_subset _ _ hf)), h'.2.1⟩, fun a ha b hb => ?_⟩
  rcases List.mem_cons.1 hb with rfl | hb
  · exact hm a (List.take_subset _ _ ha)
  · exact h'.2.2 a ha b hb
theorem Files.ins {v' : Value} (h : Files w d v fs) (m : MF) {p : Nat} (hp : p ≤ fs.length) (hr : w'.ownsRow 0 62 3 v' (fs.length + 1) ((rowCells fs).take (p * 3) ++ m.cells ++ (rowCells fs).drop (p * 3)))
    (hb : Bytes w' m.bv m.fl.data) (hm : ∀ f ∈ fs, MF.Apart f m) (hmd : ∀ k, m.bv.ownBlock = some k → k ≠ d ∧ v.ownBlock ≠ some k ∧ k < w.heap.size) (hv : ∀ k, v'.ownBlock = some k → v.ownBlock = some k ∨ w.heap.size ≤ k) (hs : m.fl.sure ≤ m.fl.data.length) (hd : d < w.heap.size)
    (hf : Foot (fun k => v.ownBlock = some k) w w') : Files w' d v' (fs.insertIdx p m) := by
  have mem : ∀ f ∈ fs.insertIdx p m, f = m ∨ f ∈ fs := fun f hf => (List.mem_insertIdx hp).1 hf
  refine ⟨by rw [List.length_insertIdx_of_le_length hp, rowCells_insert fs p hp m]; exact hr, fun f hf' => ?_, pairwise_insert (fun a b h => MF.Apart.symm h) h.apart m hm p hp, fun f hf' k hk => ?_, fun e => ?_, fun f hf' => ?_⟩
  · rcases mem f hf' with rfl | hf'
    · exact hb
    · exact owns_foot (h.bytes f hf') hf fun k hk e => (h.off f hf' k hk).2 e
  · rcases mem f hf' with rfl | hf'
    · obtain ⟨h1, h2, h3⟩ := hmd k hk
      refine ⟨h1, fun e => ?_⟩
      rcases hv k e with e | e
      · exact h2 e
      · omega
    · obtain ⟨h1, h2⟩ := h.off f hf' k hk
      refine ⟨h1, fun e => ?_⟩
      rcases hv k e with e | e
      · exact h2 e
      · have := owns_lt (h.bytes f hf') hk; omega
  · rcases hv d e with e | e
    · exact h.offd e
    · omega
  · rcases mem f hf' with rfl | hf'
    · exact hs
    · exact h.sure f hf'
theorem ins_fl (fs : List MF) (p : Nat) (m : MF) : (fs.insertIdx p m).map MF.fl = (fs.map MF.fl).insertIdx p m.fl := by
  induction fs generalizing p with
  | nil => rcases p with _ | p <;> simp
  | cons a fs ih =>
    rcases p with _ | p
    · simp
    · simp [ih p]
/-- The disk with one file more. -/
theorem DiskAt.ins {v' : Value} {W : World} {D' : Dsk.Dk} (h : DiskAt w d D S T v fs left fv) (m : MF) {p : Nat} (hp : p ≤ fs.length) (hr : w'.ownsRow 0 62 3 v' (fs.length + 1) ((rowCells fs).take (p * 3) ++ m.cells ++ (rowCells fs).drop (p * 3)))
    (hb : Bytes w' m.bv m.fl.data) (hm : ∀ f ∈ fs, MF.Apart f m) (hmd : ∀ k, m.bv.ownBlock = some k → k ≠ d ∧ v.ownBlock ≠ some k ∧ k < w.heap.size) (hmT : ∀ k, m.bv.ownBlock = some k → S k ∧ ¬ T k) (hv : ∀ k, v'.ownBlock = some k → v.ownBlock = some k ∨ w.heap.size ≤ k)
    (hf : Foot (fun k => v.ownBlock = some k) w w') (hW : Foot (fun _ => False) (w'.setCell ⟨d, 1, none⟩ v') W)
    (hD : D' = { D with fs := (fs.insertIdx p m).map MF.fl }) (hg : Dsk.Good D') :
    DiskAt W d D' (fun k => S k ∨ v'.ownBlock = some k) T v' (fs.insertIdx p m) left fv ∧ Foot (fun k => k = d ∨ v.ownBlock = some k) w W := by
  subst hD
  have hdl := h.head.lt
  have hs : m.fl.sure ≤ m.fl.data.length := hg.sure m.fl (List.mem_map_of_mem ((List.mem_insertIdx hp).2 (.inl rfl)))
  have hF := h.files.ins m hp hr hb hm hmd hv hs hdl hf
  have hH : Head w' d D.cap v D.down D.starts left fv := h.head.foot hf fun e => h.files.offd e
  have f1 : Foot (fun k => k = d) w' W := (Foot.set (fun k => k = d) w' ⟨d, 1, none⟩ v' rfl).trans hW fun _ _ e => e.elim
  have f2 : Foot (fun k => k = d ∨ v.ownBlock = some k) w W := (hf.mono fun k _ e => .inr e).trans f1 fun _ _ e => .inl e
  have hTd : ∀ k, T k → ¬ (k = d ∨ v.ownBlock = some k) := fun k hk e => (h.tOff k hk).2 (e.elim .inl fun e => .inr (.inl e))
  have mem : ∀ f ∈ fs.insertIdx p m, f = m ∨ f ∈ fs := fun f hf => (List.mem_insertIdx hp).1 hf
  refine ⟨⟨(hH.set1 v').foot hW fun e => e, ?_, rfl, h.fail.foot f2 hTd, fun k hk => ?_, fun k hk => ?_, fun k hk => ?_, hg⟩, f2⟩
  · exact hF.fewer (List.Sublist.refl _) (owns_foot hF.row f1 fun k hk e => hF.offd (by rw [hk, e])) rfl f1 fun k e => .inl e
  · refine ⟨.inl (h.tOff k hk).1, fun e => ?_⟩
    rcases e with e | e | ⟨f, hf', e⟩
    · exact (h.tOff k hk).2 (.inl e)
    · rcases hv k e with e | e
      · exact (h.tOff k hk).2 (.inr (.inl e))
      · have := h.lt k (h.tOff k hk).1; omega
    · rcases mem f hf' with rfl | hf'
      · exact (hmT k e).2 hk
      · exact (h.tOff k hk).2 (.inr (.inr ⟨f, hf', e⟩))
  · rcases hk with e | e | ⟨f, hf', e⟩
    · exact .inl (h.inS k (.inl e))
    · exact .inr e
    · rcases mem f hf' with rfl | hf'
      · exact .inl (hmT k e).1
      · exact .inl (h.inS k (.inr (.inr ⟨f, hf', e⟩)))
  · rcases hk with e | e
    · exact Nat.lt_of_lt_of_le (h.lt k e) f2.size
    · exact Nat.lt_of_lt_of_le (owns_lt hr e) f1.size
end
end Go.Proofs.Ytceldekbkffhpaa
