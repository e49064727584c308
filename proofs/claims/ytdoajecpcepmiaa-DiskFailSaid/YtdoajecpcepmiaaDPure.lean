/-
  What the laws of crashes, failures and other names say, of disks in plain words. No program in this text but the acts' meaning.
-/
import Derived.Test.YtdoajecpcepmiaaDPlay
namespace Go.Proofs.Ytdoajecpcepmiaa
namespace Dsk
/-- A disk that is down has no failure set. -/
def Calm (D : Dk) : Prop := D.down = true → D.fail = none
theorem calm_pass {D : Dk} (h : Calm D) : Calm (pass D).1 := by
  obtain ⟨cap, fs, down, starts, _ | ⟨_ | k, keep⟩⟩ := D
  · exact h
  · exact fun _ => rfl
  · intro hd
    have := h hd
    cases this
theorem calm_fs {D : Dk} (h : Calm D) (fs : List Fl) : Calm { D with fs := fs } := h
theorem calm_change {D : Dk} (h : Calm D) (g : List Fl → List Fl) : Calm (change D g).1 := by
  unfold change
  split
  · exact calm_fs (calm_pass h) _
  · exact calm_pass h
theorem calm_ask {D : Dk} (h : Calm D) (nm : ByteArray) (what : Nat → Dk × Int) (hw : ∀ i, Calm (what i).1) : Calm (ask D nm what).1 := by
  unfold ask
  split
  · exact h
  · split
    · exact h
    · exact hw _
theorem calm_act {D : Dk} (h : Calm D) (x : ActV) (keep : List Int) : Calm (act D x keep).1 := by
  unfold act
  have hst : Calm (start D).1 := by
    unfold start
    split
    · intro h; cases h
    · exact h
  split
  · exact calm_ask h _ _ fun _ => calm_change h _
  split
  · refine calm_ask h _ _ fun _ => ?_
    split
    · exact h
    · exact calm_change h _
  split
  · refine calm_ask h _ _ fun _ => ?_
    split
    · exact h
    · exact calm_change h _
  split
  · exact calm_ask h _ _ fun _ => calm_change h _
  split
  · unfold crash
    split
    · exact h
    · exact fun _ => rfl
  split
  · exact hst
  split
  · exact hst
  split
  · unfold failSet
    split
    · exact h
    · rename_i hd
      split
      · exact h
      · exact fun e => absurd e hd
  · unfold append
    split
    · exact h
    · split
      · exact h
      · split
        · exact h
        · exact calm_pass (calm_fs h _)
theorem calm_plays (K : ActV → List Int) {D : Dk} (h : Calm D) (l : List ActV) : Calm (plays K D l) := by
  induction l generalizing D with
  | nil => exact h
  | cons x l ih => exact ih (calm_act h x (K x))
theorem upD_is {D : Dk} (h : Calm D) : (upD D).down = false ∧ (upD D).fail = none ∧ (upD D).starts = D.starts + 1 := by
  unfold upD
  cases hd : D.down
  · exact ⟨rfl, rfl, rfl⟩
  · simp only [if_true]
    unfold start
    rw [hd]
    exact ⟨rfl, h hd, rfl⟩
/-! ### Crashes -/
theorem crash_up {D : Dk} (hd : D.down = false) (keep : List Int) : crash D keep = (goDown D keep, 0) := by unfold crash; rw [hd]; rfl
theorem crashed_len (keep : List Int) (fs : List Fl) : (crashed keep fs).length = fs.length := by unfold crashed; rw [List.length_mapIdx]
theorem crashed_at (keep : List Int) (fs : List Fl) {i : Nat} (hi : i < fs.length) : (crashed keep fs)[i]'(by rw [crashed_len]; exact hi) = crashF keep i fs[i] := by unfold crashed; rw [List.getElem_mapIdx]
theorem crashed_names (keep : List Int) (fs : List Fl) : names (crashed keep fs) = names fs := names_mapIdx _ _ (crashF_name keep)
theorem crashed_all {keep : List Int} {fs : List Fl} (h : ∀ f ∈ fs, f.sure ≤ f.data.length) : ∀ f ∈ crashed keep fs, f.sure = f.data.length := fun f hf => by
  obtain ⟨j, hj, rfl⟩ := List.getElem_of_mem hf
  have hj' : j < fs.length := by rwa [crashed_len] at hj
  rw [crashed_at keep fs hj']
  exact (crashF_ok keep j fs[j]).2 (h _ (List.getElem_mem hj'))
theorem crashed_none {fs : List Fl} (h : ∀ f ∈ fs, f.sure = f.data.length) : crashed [] fs = fs := by
  apply List.ext_getElem (by rw [crashed_len])
  intro j h1 h2
  rw [crashed_at [] fs h2]
  have := h _ (List.getElem_mem h2)
  unfold crashF kept
  rcases hf : fs[j] with ⟨n, d, s⟩
  rw [hf] at this
  simp only at this
  subst this
  simp
theorem unsynced_none {fs : List Fl} (h : ∀ f ∈ fs, f.sure = f.data.length) {i : Nat} (hi : i < fs.length) : (unsynced fs).getD i 0 = 0 := by
  have := h _ (List.getElem_mem hi)
  simp [unsynced, List.getD, hi, this]
/-- Behind a crash, and a start. -/
def again (D : Dk) (keep : List Int) : Dk := ⟨D.cap, crashed keep D.fs, false, D.starts + 1, none⟩
theorem start_again (D : Dk) (keep : List Int) : start (goDown D keep) = (again D keep, 0) := rfl
theorem crash_again (D : Dk) (keep k2 : List Int) : crash (goDown D keep) k2 = (goDown D keep, 41) := rfl
theorem again_again {D : Dk} {keep : List Int} (h : ∀ f ∈ D.fs, f.sure ≤ f.data.length) : (again (again D keep) []).fs = crashed keep D.fs := crashed_none (crashed_all h)
/-! ### Other names -/
theorem mem_del {fs : List Fl} (hr : Rise (names fs)) {nm : ByteArray} {f : Fl} (h : f ∈ del fs nm) : f ∈ fs ∧ f.name ≠ nm :=
  ⟨(names_del fs nm).subset h, fun e => not_del hr nm (by have h2 := List.mem_map_of_mem (f := Fl.name) h; rw [e] at h2; exact h2)⟩
theorem len_del {fs : List Fl} (hr : Rise (names fs)) (nm : ByteArray) : (del fs nm).length = fs.length - if nm ∈ names fs then 1 else 0 := by
  unfold del
  by_cases h : nm ∈ names fs
  · rw [if_pos h, if_pos h, List.length_eraseIdx_of_lt (place_mem' hr h).1]
  · rw [if_neg h, if_neg h]; rfl
theorem mem_del_iff {fs : List Fl} {nm n : ByteArray} (hr : Rise (names fs)) (hne : n ≠ nm) : n ∈ names (del fs nm) ↔ n ∈ names fs := by
  constructor
  · exact fun h => (List.Sublist.subset ((names_del fs nm).map _)) h
  · intro h
    unfold del
    split
    · rename_i hm
      obtain ⟨f, hf, rfl⟩ := List.mem_map.1 h
      obtain ⟨j, hj, rfl⟩ := List.getElem_of_mem hf
      refine List.mem_map_of_mem (List.mem_eraseIdx_iff_getElem.2 ⟨j, hj, fun e => ?_, rfl⟩)
      subst e
      exact hne (place_mem' hr hm).2
    · exact h
/-- What stands in a list of files behind a rename. -/
theorem renamed {fs : List Fl} (hr : Rise (names fs)) {from_ nw : ByteArray} (hf : from_ ∈ names fs) :
    (∀ f ∈ renameF fs (place (names fs) from_) from_ nw, (f.name = nw ∧ ∃ g ∈ fs, g.name = from_ ∧ f.data = g.data ∧ f.sure = g.sure) ∨ (f.name ≠ nw ∧ f.name ≠ from_ ∧ f ∈ fs)) ∧
    (renameF fs (place (names fs) from_) from_ nw).length = fs.length - if nw ∈ names fs ∧ from_ ≠ nw then 1 else 0 := by
  obtain ⟨hi, hn⟩ := place_mem' hr hf
  have hr1 : Rise (names (del fs from_)) := List.Pairwise.sublist ((names_del fs from_).map _) hr
  have hle := place_le' (del (del fs from_) nw) nw
  unfold renameF
  rw [List.getElem?_eq_getElem hi]
  show (∀ f ∈ put (del (del fs from_) nw) { fs[place (names fs) from_] with name := nw }, _) ∧ (put (del (del fs from_) nw) { fs[place (names fs) from_] with name := nw }).length = _
  unfold put
  constructor
  · intro f hm
    rcases (List.mem_insertIdx hle).1 hm with rfl | hm
    · exact .inl ⟨rfl, _, List.getElem_mem hi, hn, rfl, rfl⟩
    · obtain ⟨h1, h2⟩ := mem_del hr1 hm
      obtain ⟨h3, h4⟩ := mem_del hr h1
      exact .inr ⟨h2, h4, h3⟩
  · rw [List.length_insertIdx_of_le_length hle, len_del hr1, len_del hr, if_pos hf]
    by_cases he : from_ = nw
    · subst he
      rw [if_neg (not_del hr from_), if_neg (fun h => h.2 rfl)]
      omega
    · by_cases ht : nw ∈ names fs
      · rw [if_pos ((mem_del_iff hr (fun e => he e.symm)).2 ht), if_pos ⟨ht, he⟩]
        have h1 : 2 ≤ fs.length := by
          obtain ⟨hj, hjn⟩ := place_mem' hr ht
          have : place (names fs) nw ≠ place (names fs) from_ := fun e => he (by
            have h2 : fs[place (names fs) nw].name = fs[place (names fs) from_].name := by simp only [e]
            exact hn.symm.trans (h2.symm.trans hjn))
          omega
        omega
      · rw [if_neg (fun h => ht ((mem_del_iff hr (fun e => he e.symm)).1 h)), if_neg (fun h => ht h.1)]
        omega
theorem append_up {D : Dk} (hd : D.down = false) (hf : D.fail = none) (nm s : ByteArray) : (append D nm s).1.down = false ∧ (append D nm s).1.fail = none := by
  obtain ⟨cap, fs, down, starts, fail⟩ := D
  simp only at hd hf
  subst hd hf
  unfold append
  simp only [Bool.false_eq_true, if_false]
  split
  · exact ⟨rfl, rfl⟩
  · split
    · exact ⟨rfl, rfl⟩
    · exact ⟨rfl, rfl⟩
theorem rename_cases {D : Dk} (hd : D.down = false) (hf : D.fail = none) (src dst : ByteArray) :
    (src ∉ names D.fs ∧ rename D src dst = (D, 4)) ∨ (src ∈ names D.fs ∧ isNm dst = false ∧ rename D src dst = (D, 2)) ∨
    (src ∈ names D.fs ∧ isNm dst = true ∧ rename D src dst = ({ D with fs := renameF D.fs (place (names D.fs) src) src dst }, 0)) := by
  obtain ⟨cap, fs, down, starts, fail⟩ := D
  simp only at hd hf
  subst hd hf
  unfold rename ask
  simp only [Bool.false_eq_true, if_false]
  by_cases h : src ∈ names fs
  · rw [if_neg (fun e => e h)]
    cases hn : isNm dst
    · exact .inr (.inl ⟨h, rfl, rfl⟩)
    · exact .inr (.inr ⟨h, rfl, rfl⟩)
  · rw [if_pos h]
    exact .inl ⟨h, rfl⟩
/-- A name stands once. -/
theorem same_name {fs : List Fl} (hr : Rise (names fs)) {f g : Fl} (hf : f ∈ fs) (hg : g ∈ fs) (h : f.name = g.name) : f = g := by
  obtain ⟨i, hi, rfl⟩ := List.getElem_of_mem hf
  obtain ⟨j, hj, rfl⟩ := List.getElem_of_mem hg
  have h1 := (place_name hr hi).2
  have h2 := (place_name hr hj).2
  rw [h, h2] at h1
  subst h1
  rfl
theorem look_mem {fs : List Fl} (hr : Rise (names fs)) {f : Fl} (hf : f ∈ fs) : look fs f.name = (f.data, true) := by
  obtain ⟨i, hi, rfl⟩ := List.getElem_of_mem hf
  exact look_at hr hi
end Dsk
end Go.Proofs.Ytdoajecpcepmiaa
