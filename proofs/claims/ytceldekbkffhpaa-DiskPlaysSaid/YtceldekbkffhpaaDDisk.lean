/-
  A disk in memory that is one of plain words; what a change that passes, or fails, makes of it.
-/
import Derived.Test.YtceldekbkffhpaaDAsk
import Derived.Test.YtceldekbkffhpaaDGood
namespace Go.Proofs.Ytceldekbkffhpaa
open Go.RowKit
structure DiskAt (w : World) (d : Nat) (D : Dsk.Dk) (S T : Nat → Prop) (v : Value) (fs : List MF) (left : Int) (fv : Value) : Prop where
  head : Head w d D.cap v D.down D.starts left fv
  files : Files w d v fs
  fls : fs.map MF.fl = D.fs
  fail : FailIs w d T left fv D.fail
  tOff : ∀ k, T k → S k ∧ ¬ OfFiles d v fs k
  inS : ∀ k, OfFiles d v fs k → S k
  lt : ∀ k, S k → k < w.heap.size
  good : Dsk.Good D
def IsDisk (w : World) (d : Nat) (D : Dsk.Dk) (S : Nat → Prop) : Prop := ∃ T v fs left fv, DiskAt w d D S T v fs left fv
section
variable {w w' : World} {d : Nat} {D : Dsk.Dk} {S T : Nat → Prop} {v : Value} {fs : List MF} {left : Int} {fv : Value}
theorem DiskAt.names (h : DiskAt w d D S T v fs left fv) : MF.names fs = Dsk.names D.fs := by unfold MF.names; rw [h.fls]
theorem DiskAt.len (h : DiskAt w d D S T v fs left fv) : fs.length = D.fs.length := by rw [← h.fls, List.length_map]
theorem DiskAt.few (h : DiskAt w d D S T v fs left fv) : fs.length ≤ 16 := by rw [h.len]; exact h.good.few
theorem DiskAt.rise (h : DiskAt w d D S T v fs left fv) : Dsk.Rise (MF.names fs) := by rw [h.names]; exact h.good.rise
theorem DiskAt.at_ (h : DiskAt w d D S T v fs left fv) {i : Nat} (hi : i < fs.length) : D.fs[i]? = some fs[i].fl := by rw [← h.fls]; simp [hi]
/-- Elsewhere something has changed. -/
theorem DiskAt.foot {S' : Nat → Prop} (h : DiskAt w d D S T v fs left fv) (hf : Foot S' w w') (hn : ∀ k, S k → ¬ S' k) : DiskAt w' d D S T v fs left fv :=
  ⟨h.head.foot hf (hn d (h.inS d (.inl rfl))), h.files.foot hf fun k hk => hn k (h.inS k hk), h.fls, h.fail.foot hf fun k hk => hn k (h.tOff k hk).1, h.tOff, h.inS, fun k hk => Nat.lt_of_lt_of_le (h.lt k hk) hf.size, h.good⟩
theorem DiskAt.below (h : DiskAt w d D S T v fs left fv) (hb : Below w.heap.size w w') : DiskAt w' d D S T v fs left fv := h.foot (below_foot (S := fun _ => False) hb) fun _ _ e => e
theorem IsDisk.foot {S' : Nat → Prop} (h : IsDisk w d D S) (hf : Foot S' w w') (hn : ∀ k, S k → ¬ S' k) : IsDisk w' d D S := by
  obtain ⟨T, v, fs, left, fv, h⟩ := h
  exact ⟨T, v, fs, left, fv, h.foot hf hn⟩
theorem IsDisk.below (h : IsDisk w d D S) (hb : Below w.heap.size w w') : IsDisk w' d D S := h.foot (below_foot (S := fun _ => False) hb) fun _ _ e => e
theorem IsDisk.lt (h : IsDisk w d D S) : ∀ k, S k → k < w.heap.size := by
  obtain ⟨T, v, fs, left, fv, h⟩ := h
  exact h.lt
theorem IsDisk.good (h : IsDisk w d D S) : Dsk.Good D := by
  obtain ⟨T, v, fs, left, fv, h⟩ := h
  exact h.good
theorem IsDisk.own (h : IsDisk w d D S) : S d := by
  obtain ⟨T, v, fs, left, fv, h⟩ := h
  exact h.inS d (.inl rfl)
/-- What a call did. -/
def Did (w : World) (d : Nat) (S : Nat → Prop) (R : Dsk.Dk × Int) (r : Int) (w' : World) : Prop :=
  r = R.2 ∧ ∃ S', IsDisk w' d R.1 S' ∧ Foot S w w' ∧ ∀ k, S' k → S k ∨ w.heap.size ≤ k
theorem Did.from_ {R : Dsk.Dk × Int} {r : Int} {w1 : World} (hb : Below w.heap.size w w1) (h : Did w1 d S R r w') : Did w d S R r w' := by
  obtain ⟨h1, S', h2, h3, h4⟩ := h
  exact ⟨h1, S', h2, (below_foot hb).trans h3 fun _ _ h => h, fun k hk => (h4 k hk).imp id fun h => Nat.le_trans hb.size h⟩
theorem Did.same (h : IsDisk w d D S) (r : Int) (hb : Below w.heap.size w w') : Did w d S (D, r) r w' := ⟨rfl, S, h.below hb, below_foot hb, fun _ hk => .inl hk⟩
def PassPost (w : World) (d : Nat) (D : Dsk.Dk) (S T : Nat → Prop) (v : Value) (fs : List MF) (fv : Value) (e : Ending) (w' : World) : Prop :=
  ((Dsk.pass D).2 = 0 ∧ e = .returned (.int .i64 0) ∧ ∃ left', DiskAt w' d (Dsk.pass D).1 S T v fs left' fv ∧ Foot (fun k => k = d) w w') ∨
  ((Dsk.pass D).2 = 41 ∧ e = .returned (.int .i64 41) ∧ IsDisk w' d (Dsk.pass D).1 S ∧ Foot (fun k => k = d ∨ v.ownBlock = some k) w w')
theorem crashed_block (keep : List Int) (fs : List MF) {f : MF} (h : f ∈ crashedM keep fs) : ∃ f' ∈ fs, f.bv.ownBlock = f'.bv.ownBlock := by
  unfold crashedM at h
  obtain ⟨i, hi, rfl⟩ := List.getElem_of_mem h
  rw [List.length_mapIdx] at hi
  rw [List.getElem_mapIdx]
  exact ⟨fs[i], List.getElem_mem hi, by unfold crashM; exact cutV_block _ _⟩
theorem crashed_of {d : Nat} {v : Value} (keep : List Int) (fs : List MF) {k : Nat} (h : OfFiles d v (crashedM keep fs) k) : OfFiles d v fs k := by
  rcases h with h | h | ⟨f, hf, h⟩
  · exact .inl h
  · exact .inr (.inl h)
  · obtain ⟨f', hf', e⟩ := crashed_block keep fs hf
    exact .inr (.inr ⟨f', hf', by rw [← e]; exact h⟩)
/-- The disk behind a crash. -/
theorem DiskAt.downed {l' : Int} {keep : List Int} (h : DiskAt w d D S T v fs left fv) (hh : Head w' d D.cap v true D.starts l' .nilFunc) (hf : Files w' d v (crashedM keep fs)) (hs : w.heap.size ≤ w'.heap.size) : IsDisk w' d (Dsk.goDown D keep) S := by
  refine ⟨fun _ => False, v, crashedM keep fs, l', .nilFunc, hh, hf, ?_, rfl, fun _ h => h.elim, fun k hk => h.inS k (crashed_of keep fs hk), fun k hk => Nat.lt_of_lt_of_le (h.lt k hk) hs, h.good.down keep⟩
  rw [crashM_fl, h.fls]; rfl
theorem pass_at (h : DiskAt w d D S T v fs left fv) : Calls Try.prog 52 #[.pointer (some ⟨d, 0, none⟩)] w (PassPost w d D S T v fs fv) := by
  have hfew := h.few
  have hfail := h.fail
  obtain ⟨cap, gs, down, starts, F⟩ := D
  rcases F with _ | ⟨n, keep⟩
  · have hfv : fv = .nilFunc := hfail
    subst hfv
    refine (pass_none h.head).mono ?_
    rintro e w1 ⟨rfl, rfl⟩
    exact .inl ⟨rfl, rfl, left, h, Foot.refl _ _⟩
  · obtain ⟨h1, h2, c1, c2, kv, h3, h4, h5, h6, h7, h8, h9⟩ := hfail
    subst h3
    subst h1
    rcases n with _ | n
    · refine (pass_down h.head h.files (by omega) h4 h5 h6 (fun k hk => ?_)).mono ?_
      · have := (h.tOff k (h9 k hk)).2
        exact ⟨fun e => this (.inl e), fun e => this (.inr (.inl e))⟩
      · rintro e w1 ⟨rfl, q1, q2, q3⟩
        exact .inr ⟨rfl, rfl, h.downed q1 q2 q3.size, q3⟩
    · refine (pass_more h.head h2).mono ?_
      rintro e w1 ⟨rfl, q1, q2⟩
      have hnd : ∀ k, T k → ¬ k = d := fun k hk e => (h.tOff k hk).2 (.inl e)
      refine .inl ⟨rfl, rfl, (n : Int), ⟨q1, ?_, h.fls, ?_, h.tOff, h.inS, fun k hk => Nat.lt_of_lt_of_le (h.lt k hk) q2.size, h.good.same _ _ _⟩, q2⟩
      · refine h.files.fewer (List.Sublist.refl _) (owns_foot h.files.row q2 fun k hk e => h.files.offd (by rw [hk, e])) rfl q2 fun k e => .inl e
      · exact ⟨rfl, by omega, c1, c2, kv, rfl, q2.kept h4 (hnd c1 h7), q2.kept h5 (hnd c2 h8), h6.foot q2 fun k hk => hnd k (h9 k hk), h7, h8, h9⟩
theorem pass_has (D : Dsk.Dk) : (Dsk.pass D).1.cap = D.cap ∧ ((Dsk.pass D).2 = 0 → (Dsk.pass D).1.fs = D.fs ∧ (Dsk.pass D).1.down = D.down ∧ (Dsk.pass D).1.starts = D.starts) := by
  obtain ⟨cap, gs, down, starts, _ | ⟨_ | n, keep⟩⟩ := D
  · exact ⟨rfl, fun _ => ⟨rfl, rfl, rfl⟩⟩
  · exact ⟨rfl, fun h => by cases h⟩
  · exact ⟨rfl, fun _ => ⟨rfl, rfl, rfl⟩⟩
/-- One file changes its bytes, or how many are sure. -/
theorem DiskAt.put {S0 : Nat → Prop} {D' : Dsk.Dk} {i : Nat} (h : DiskAt w d D S T v fs left fv) (hi : i < fs.length) (f : MF) (hr : w'.ownsRow 0 62 3 v fs.length (rowCells (fs.set i f)))
    (hb : Bytes w' f.bv f.fl.data) (hk : ∀ k, f.bv.ownBlock = some k → fs[i].bv.ownBlock = some k ∨ w.heap.size ≤ k) (hf : Foot S0 w w') (hS : ∀ k, k < w.heap.size → S0 k → v.ownBlock = some k ∨ fs[i].bv.ownBlock = some k)
    (hD : D' = { D with fs := (fs.set i f).map MF.fl }) (hg : Dsk.Good D') : IsDisk w' d D' (fun k => S k ∨ f.bv.ownBlock = some k) := by
  subst hD
  have hdl := h.head.lt
  have hsure : f.fl.sure ≤ f.fl.data.length := hg.sure f.fl (List.mem_map_of_mem (List.mem_set hi f))
  have hfi := fs[i].bv.ownBlock
  have hmem := List.getElem_mem hi
  have offi : ∀ k, T k → ¬ S0 k := fun k hk e => by
    rcases hS k (h.lt k (h.tOff k hk).1) e with e | e
    · exact (h.tOff k hk).2 (.inr (.inl e))
    · exact (h.tOff k hk).2 (.inr (.inr ⟨_, hmem, e⟩))
  refine ⟨T, v, fs.set i f, left, fv, h.head.foot hf fun e => ?_, h.files.put hi f hr hb hk hsure hdl hf fun k hk' e => (hS k hk' e).elim (fun e => .inr (.inl e)) fun e => .inr (.inr e), rfl, h.fail.foot hf offi, fun k hk' => ?_, fun k hk' => ?_, fun k hk' => ?_, hg⟩
  · rcases hS d hdl e with e | e
    · exact h.files.offd e
    · exact (h.files.off _ hmem d e).1 rfl
  · refine ⟨.inl (h.tOff k hk').1, fun hof => ?_⟩
    rcases hof with e | e | ⟨g, hg', e⟩
    · exact (h.tOff k hk').2 (.inl e)
    · exact (h.tOff k hk').2 (.inr (.inl e))
    · rcases List.mem_or_eq_of_mem_set hg' with hg' | rfl
      · exact (h.tOff k hk').2 (.inr (.inr ⟨g, hg', e⟩))
      · rcases hk k e with e | e
        · exact (h.tOff k hk').2 (.inr (.inr ⟨_, hmem, e⟩))
        · have := h.lt k (h.tOff k hk').1; omega
  · rcases hk' with e | e | ⟨g, hg', e⟩
    · exact .inl (h.inS k (.inl e))
    · exact .inl (h.inS k (.inr (.inl e)))
    · rcases List.mem_or_eq_of_mem_set hg' with hg' | rfl
      · exact .inl (h.inS k (.inr (.inr ⟨g, hg', e⟩)))
      · exact .inr e
  · rcases hk' with e | e
    · exact Nat.lt_of_lt_of_le (h.lt k e) hf.size
    · exact owns_lt hb e
theorem set_modify (fs : List MF) {i : Nat} (hi : i < fs.length) (f : MF) (g : Dsk.Fl → Dsk.Fl) (hf : f.fl = g fs[i].fl) : (fs.set i f).map MF.fl = (fs.map MF.fl).modify i g := by
  apply List.ext_getElem (by simp)
  intro j h1 h2
  rw [List.getElem_map, List.getElem_set, List.getElem_modify, List.getElem_map]
  split
  · rename_i e; subst e; exact hf
  · rfl
end
end Go.Proofs.Ytceldekbkffhpaa
