/-
  What every call keeps of a disk: names that rise, each a name; at most 16 files; no more bytes than the capacity. No program in this text.
-/
import Derived.Test.YtceldekbkffhpaaDMath
namespace Go.Proofs.Ytceldekbkffhpaa
namespace Dsk
theorem names_len (fs : List Fl) : (names fs).length = fs.length := by simp [names]
theorem names_modify (fs : List Fl) (i : Nat) (g : Fl → Fl) (h : ∀ f, (g f).name = f.name) : names (fs.modify i g) = names fs := by
  unfold names
  apply List.ext_getElem (by simp)
  intro j h1 h2
  rw [List.getElem_map, List.getElem_modify, List.getElem_map]
  split
  · exact h _
  · rfl
theorem total_cons (f : Fl) (fs : List Fl) : total (f :: fs) = f.data.length + total fs := by simp [total]
theorem total_nil : total [] = 0 := rfl
theorem total_append (a b : List Fl) : total (a ++ b) = total a + total b := by simp [total]
theorem total_modify (fs : List Fl) (i : Nat) (g : Fl → Fl) (h : ∀ f, (g f).data.length ≤ f.data.length) : total (fs.modify i g) ≤ total fs := by
  induction fs generalizing i with
  | nil => simp
  | cons f fs ih =>
    rcases i with _ | i
    · simp only [List.modify_zero_cons, total_cons]; have := h f; omega
    · simp only [List.modify_succ_cons, total_cons]; have := ih i; omega
theorem total_sublist {a b : List Fl} (h : a.Sublist b) : total a ≤ total b := by
  induction h with
  | slnil => exact Nat.le_refl _
  | cons f _ ih => rw [total_cons]; omega
  | cons_cons f _ ih => rw [total_cons, total_cons]; omega
theorem crashF_name (keep : List Int) (i : Nat) (f : Fl) : (crashF keep i f).name = f.name := rfl
theorem names_mapIdx (fs : List Fl) (g : Nat → Fl → Fl) (h : ∀ i f, (g i f).name = f.name) : names (fs.mapIdx g) = names fs := by
  unfold names
  apply List.ext_getElem (by simp)
  intro j h1 h2
  simp [h]
theorem total_mapIdx (fs : List Fl) (g : Nat → Fl → Fl) (h : ∀ i f, (g i f).data.length ≤ f.data.length) : total (fs.mapIdx g) ≤ total fs := by
  induction fs generalizing g with
  | nil => simp
  | cons f fs ih =>
    rw [List.mapIdx_cons, total_cons, total_cons]
    have := ih (fun i => g (i + 1)) (fun i f => h (i + 1) f)
    have := h 0 f
    omega
structure Good (D : Dk) : Prop where
  rise : Rise (names D.fs)
  few : D.fs.length ≤ 16
  room : total D.fs ≤ D.cap
  cap0 : 0 < D.cap
  cap1 : D.cap ≤ 1048576
  nm : ∀ f ∈ D.fs, isNm f.name = true
  sure : ∀ f ∈ D.fs, f.sure ≤ f.data.length
theorem Good.of {D : Dk} (h : Good D) {fs : List Fl} (h1 : Rise (names fs)) (h2 : fs.length ≤ 16) (h3 : total fs ≤ D.cap) (h4 : ∀ f ∈ fs, isNm f.name = true) (h5 : ∀ f ∈ fs, f.sure ≤ f.data.length) (down : Bool) (starts : Nat) (fail : Option (Nat × List Int)) : Good ⟨D.cap, fs, down, starts, fail⟩ :=
  ⟨h1, h2, h3, h.cap0, h.cap1, h4, h5⟩
theorem Good.same {D : Dk} (h : Good D) (down : Bool) (starts : Nat) (fail : Option (Nat × List Int)) : Good ⟨D.cap, D.fs, down, starts, fail⟩ := ⟨h.rise, h.few, h.room, h.cap0, h.cap1, h.nm, h.sure⟩
theorem Good.modify {D : Dk} (h : Good D) (i : Nat) (g : Fl → Fl) (hn : ∀ f, (g f).name = f.name) (hd : ∀ f, (g f).data.length ≤ f.data.length) (hs : ∀ f ∈ D.fs, (g f).sure ≤ (g f).data.length) (down : Bool) (starts : Nat) (fail : Option (Nat × List Int)) : Good ⟨D.cap, D.fs.modify i g, down, starts, fail⟩ := by
  have mem : ∀ f ∈ D.fs.modify i g, f ∈ D.fs ∨ ∃ f' ∈ D.fs, f = g f' := fun f hf => by
    obtain ⟨j, hj, rfl⟩ := List.getElem_of_mem hf
    rw [List.length_modify] at hj
    rw [List.getElem_modify]
    split
    · exact .inr ⟨_, List.getElem_mem hj, rfl⟩
    · exact .inl (List.getElem_mem hj)
  refine h.of (by rw [names_modify _ _ _ hn]; exact h.rise) (by rw [List.length_modify]; exact h.few) (Nat.le_trans (total_modify _ _ _ hd) h.room) (fun f hf => ?_) (fun f hf => ?_) _ _ _
  · rcases mem f hf with h' | ⟨f', h', rfl⟩
    · exact h.nm f h'
    · rw [hn]; exact h.nm f' h'
  · rcases mem f hf with h' | ⟨f', h', rfl⟩
    · exact h.sure f h'
    · exact hs f' h'
theorem kept_le (keep : List Int) (i n : Nat) : kept keep i n ≤ n := by
  unfold kept
  split
  · omega
  · exact Nat.zero_le _
theorem crashF_ok (keep : List Int) (i : Nat) (f : Fl) : (crashF keep i f).data.length ≤ f.data.length ∧ (f.sure ≤ f.data.length → (crashF keep i f).sure = (crashF keep i f).data.length) := by
  have := kept_le keep i (f.data.length - f.sure)
  constructor
  · show (List.take _ _).length ≤ _
    rw [List.length_take]; omega
  · intro h
    show f.sure + _ = (List.take _ _).length
    rw [List.length_take]; omega
theorem Good.down {D : Dk} (h : Good D) (keep : List Int) : Good (goDown D keep) := by
  refine h.of (by show Rise (names (List.mapIdx (crashF keep) D.fs)); rw [names_mapIdx _ _ (crashF_name keep)]; exact h.rise) (by show (List.mapIdx (crashF keep) D.fs).length ≤ 16; rw [List.length_mapIdx]; exact h.few) (Nat.le_trans (total_mapIdx _ _ fun i f => (crashF_ok keep i f).1) h.room) (fun f hf => ?_) (fun f hf => ?_) _ _ _
  · obtain ⟨j, hj, rfl⟩ := List.getElem_of_mem hf
    simp only [List.length_mapIdx] at hj
    simp only [List.getElem_mapIdx]
    exact h.nm D.fs[j] (List.getElem_mem hj)
  · obtain ⟨j, hj, rfl⟩ := List.getElem_of_mem hf
    simp only [List.length_mapIdx] at hj
    simp only [List.getElem_mapIdx]
    rw [(crashF_ok keep j _).2 (h.sure _ (List.getElem_mem hj))]
    exact Nat.le_refl _
theorem Good.pass {D : Dk} (h : Good D) : Good (Dsk.pass D).1 := by
  unfold Dsk.pass
  split
  · exact h
  · exact h.same _ _ _
  · exact h.down _
/-- Whether it passes does not hang on the files. -/
theorem pass_code (D : Dk) (fs : List Fl) : (Dsk.pass { D with fs := fs }).2 = (Dsk.pass D).2 := by
  unfold Dsk.pass
  rcases D with ⟨cap, gs, down, starts, _ | ⟨_ | n, keep⟩⟩ <;> rfl
theorem pass_two (D : Dk) : ((Dsk.pass D).2 = 0 ∧ (Dsk.pass D).1.fs = D.fs) ∨ ∃ keep, D.fail = some (0, keep) ∧ Dsk.pass D = (goDown D keep, 41) := by
  unfold Dsk.pass
  rcases D with ⟨cap, gs, down, starts, _ | ⟨_ | n, keep⟩⟩
  · exact .inl ⟨rfl, rfl⟩
  · exact .inr ⟨keep, rfl, rfl⟩
  · exact .inl ⟨rfl, rfl⟩
theorem names_del (fs : List Fl) (nm : ByteArray) : (del fs nm).Sublist fs := by
  unfold del
  split
  · exact List.eraseIdx_sublist _ _
  · exact List.Sublist.refl _
theorem Good.sub {D : Dk} (h : Good D) {fs : List Fl} (hs : fs.Sublist D.fs) (down : Bool) (starts : Nat) (fail : Option (Nat × List Int)) : Good ⟨D.cap, fs, down, starts, fail⟩ :=
  h.of (List.Pairwise.sublist (hs.map _) h.rise) (Nat.le_trans hs.length_le h.few) (Nat.le_trans (total_sublist hs) h.room) (fun f hf => h.nm f (hs.subset hf)) (fun f hf => h.sure f (hs.subset hf)) _ _ _
theorem names_insert (fs : List Fl) (i : Nat) (f : Fl) : names (fs.insertIdx i f) = (names fs).insertIdx i f.name := by
  unfold names
  induction fs generalizing i with
  | nil => rcases i with _ | i <;> simp
  | cons a fs ih =>
    rcases i with _ | i
    · simp
    · simp [ih i]
theorem names_erase (fs : List Fl) (i : Nat) : names (fs.eraseIdx i) = (names fs).eraseIdx i := by
  unfold names
  rw [List.eraseIdx_eq_take_drop_succ, List.eraseIdx_eq_take_drop_succ, List.map_append, List.map_take, List.map_drop]
theorem total_insert (fs : List Fl) (i : Nat) (f : Fl) (hi : i ≤ fs.length) : total (fs.insertIdx i f) = total fs + f.data.length := by
  induction fs generalizing i with
  | nil =>
    obtain rfl : i = 0 := by simpa using hi
    rw [List.insertIdx_zero, total_cons, total_nil]; omega
  | cons a fs ih =>
    rcases i with _ | i
    · rw [List.insertIdx_zero, total_cons]; omega
    · rw [List.insertIdx_succ_cons, total_cons, total_cons, ih i (by simpa using hi)]; omega
theorem place_le' (fs : List Fl) (nm : ByteArray) : place (names fs) nm ≤ fs.length := by
  have := place_le (names fs) nm
  rwa [names_len] at this
theorem not_del {fs : List Fl} (hr : Rise (names fs)) (nm : ByteArray) : nm ∉ names (del fs nm) := by
  unfold del
  split
  · rename_i h
    rw [names_erase]
    exact hr.not_del h
  · assumption
theorem del_total {fs : List Fl} (hr : Rise (names fs)) {i : Nat} (hi : i < fs.length) (nm : ByteArray) (hn : fs[i].name = nm) : total (del fs nm) + fs[i].data.length = total fs ∧ (del fs nm).length + 1 = fs.length := by
  have hm : nm ∈ names fs := by
    rw [← hn]; exact List.mem_map_of_mem (List.getElem_mem hi)
  have hp : place (names fs) nm = i := by
    have := place_at hr (i := i) (by rw [names_len]; exact hi)
    rw [show (names fs)[i]'(by rw [names_len]; exact hi) = nm by simp [names, hn]] at this
    exact this
  unfold del
  rw [if_pos hm, hp]
  refine ⟨?_, by rw [List.length_eraseIdx_of_lt hi]; omega⟩
  have h1 : total fs = total (fs.take i) + (fs[i].data.length + total (fs.drop (i + 1))) := by
    conv => lhs; rw [← List.take_append_drop i fs, List.drop_eq_getElem_cons hi, total_append, total_cons]
  rw [List.eraseIdx_eq_take_drop_succ, total_append, h1]
  omega
theorem Good.rename {D : Dk} (h : Good D) (i : Nat) (from_ to : ByteArray) (hi : ∀ f, D.fs[i]? = some f → f.name = from_) (ht : isNm to = true) (down : Bool) (starts : Nat) (fail : Option (Nat × List Int)) : Good ⟨D.cap, renameF D.fs i from_ to, down, starts, fail⟩ := by
  unfold renameF
  rcases hf : D.fs[i]? with _ | f
  · exact h.same _ _ _
  · obtain ⟨hlt, rfl⟩ := List.getElem?_eq_some_iff.1 hf
    have hname := hi _ hf
    obtain ⟨h1, h2⟩ := del_total h.rise hlt from_ hname
    have hs1 := names_del D.fs from_
    have hs2 := (names_del (del D.fs from_) to).trans hs1
    have hg := h.sub hs2 down starts fail
    have hnot : to ∉ names (del (del D.fs from_) to) := not_del (h.sub hs1 down starts fail).rise to
    have hle := place_le' (del (del D.fs from_) to) to
    have hl2 := (names_del (del D.fs from_) to).length_le
    have ht2 := total_sublist (names_del (del D.fs from_) to)
    have hfew := h.few
    have hroom := h.room
    show Good ⟨D.cap, put (del (del D.fs from_) to) { D.fs[i] with name := to }, down, starts, fail⟩
    unfold put
    refine h.of ?_ ?_ ?_ (fun g hg' => ?_) (fun g hg' => ?_) _ _ _
    · rw [names_insert]; exact hg.rise.ins hnot
    · show (List.insertIdx _ (place _ to) _).length ≤ 16
      rw [List.length_insertIdx_of_le_length hle]; omega
    · show total (List.insertIdx _ (place _ to) _) ≤ _
      rw [total_insert _ _ _ hle]
      show _ + D.fs[i].data.length ≤ _
      omega
    · rcases (List.mem_insertIdx hle).1 hg' with rfl | hg'
      · exact ht
      · exact hg.nm g hg'
    · rcases (List.mem_insertIdx hle).1 hg' with rfl | hg'
      · exact h.sure D.fs[i] (List.getElem_mem hlt)
      · exact hg.sure g hg'
theorem total_modify_add (fs : List Fl) (i : Nat) (hi : i < fs.length) (s : List UInt8) : total (fs.modify i fun f => { f with data := f.data ++ s }) = total fs + s.length := by
  induction fs generalizing i with
  | nil => simp at hi
  | cons f fs ih =>
    rcases i with _ | i
    · simp only [List.modify_zero_cons, total_cons, List.length_append]; omega
    · simp only [List.modify_succ_cons, total_cons, ih i (by simpa using hi)]; omega
theorem place_mem' {fs : List Fl} (hr : Rise (names fs)) {nm : ByteArray} (h : nm ∈ names fs) : ∃ hi : place (names fs) nm < fs.length, (fs[place (names fs) nm]'hi).name = nm := by
  obtain ⟨h1, h2⟩ := place_mem hr h
  refine ⟨by rwa [names_len] at h1, ?_⟩
  have : (names fs)[place (names fs) nm]'h1 = (fs[place (names fs) nm]'(by rwa [names_len] at h1)).name := by simp [names]
  rw [← this]; exact h2
theorem Good.append {D : Dk} (h : Good D) (nm s : ByteArray) (hn : isNm nm = true) (hf : ¬ ((nm ∉ names D.fs ∧ 16 ≤ D.fs.length) ∨ D.cap < total D.fs + s.size)) (down : Bool) (starts : Nat) (fail : Option (Nat × List Int)) : Good ⟨D.cap, addTo D.fs nm s, down, starts, fail⟩ := by
  have hsz : s.data.toList.length = s.size := rfl
  have hroom : total D.fs + s.size ≤ D.cap := by
    rcases Nat.lt_or_ge D.cap (total D.fs + s.size) with h' | h'
    · exact absurd (.inr h') hf
    · exact h'
  have hle := place_le' D.fs nm
  have hset : ∀ (gs : List Fl), Good ⟨D.cap, gs, down, starts, fail⟩ → place (names D.fs) nm < gs.length → total gs = total D.fs → Good ⟨D.cap, gs.modify (place (names D.fs) nm) fun f => { f with data := f.data ++ s.data.toList }, down, starts, fail⟩ := fun gs hg hlt ht => by
    refine h.of (by rw [names_modify gs (place (names D.fs) nm) (fun f => { f with data := f.data ++ s.data.toList }) (fun _ => rfl)]; exact hg.rise) (by rw [List.length_modify]; exact hg.few) (by rw [total_modify_add _ _ hlt, hsz, ht]; exact hroom) (fun f hf => ?_) (fun f hf => ?_) _ _ _
    · obtain ⟨j, hj, rfl⟩ := List.getElem_of_mem hf
      rw [List.length_modify] at hj
      rw [List.getElem_modify]
      split <;> exact hg.nm gs[j] (List.getElem_mem hj)
    · obtain ⟨j, hj, rfl⟩ := List.getElem_of_mem hf
      rw [List.length_modify] at hj
      have := hg.sure _ (List.getElem_mem hj)
      rw [List.getElem_modify]
      split
      · show _ ≤ (_ ++ _ : List UInt8).length
        rw [List.length_append]
        have : gs[j].sure ≤ gs[j].data.length := this
        show gs[j].sure ≤ _
        omega
      · exact this
  unfold addTo
  by_cases hm : nm ∈ names D.fs
  · rw [if_pos hm]
    exact hset _ (h.same _ _ _) (place_mem' h.rise hm).1 rfl
  · rw [if_neg hm]
    have h16 : D.fs.length < 16 := by
      rcases Nat.lt_or_ge D.fs.length 16 with h' | h'
      · exact h'
      · exact absurd (.inl ⟨hm, h'⟩) hf
    refine hset (D.fs.insertIdx (place (names D.fs) nm) ⟨nm, [], 0⟩) (h.of (by rw [names_insert]; exact h.rise.ins hm) (by rw [List.length_insertIdx_of_le_length hle]; omega) (by rw [total_insert _ _ _ hle]; show total D.fs + 0 ≤ _; omega) (fun f hf => ?_) (fun f hf => ?_) _ _ _) (by rw [List.length_insertIdx_of_le_length hle]; omega) (by rw [total_insert _ _ _ hle]; rfl)
    · rcases (List.mem_insertIdx hle).1 hf with rfl | hf
      · exact hn
      · exact h.nm f hf
    · rcases (List.mem_insertIdx hle).1 hf with rfl | hf
      · exact Nat.le_refl _
      · exact h.sure f hf
end Dsk
end Go.Proofs.Ytceldekbkffhpaa
