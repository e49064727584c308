/-
  What a failure that is set makes of a change, of disks in plain words. No program in this text but the acts' meaning.
-/
import Derived.Test.YtdoajecpcepmiaaDPure
import Derived.OpenShut
namespace Go.Proofs.Ytdoajecpcepmiaa
section
open Go.ChangeShapes Go.WideShapes Go.ChangeAt Go.RowKit
theorem okWide_array {P : Program} {w : World} {r : Reach} {base n : Nat} {t e : TypeId} {v : Value} (ht : P.underlying t = some (.array n e)) (h : Value.okWide P w r base t v) : ∃ cs, v = .agg cs ∧ cs.size = P.cellsOf t := by
  simp only [Value.okWide, ht] at h
  obtain ⟨cs, h1, h2, _⟩ := h
  exact ⟨cs, h1, h2⟩
theorem cellsActs : Try.prog.cellsOf 22 = 1 := by kernel_rfl
theorem cellsTwo : Try.prog.cellsOf 60 = 2 := by kernel_rfl
set_option maxRecDepth 100000 in
/-- Two slices of acts, handed in as an array. -/
theorem open_two {H : Type} {enc : TypeId × Value → H} {w : World} {sp : Nat → Bool} {fuel : Nat} {cs : List Value} {y : DataW H × List MemPlace} (h : DataW.trod enc Try.prog w 0 sp true fuel 60 cs = some y) :
    ∃ u u' l l', cs = [u, u'] ∧ Acts w u l ∧ (∀ x ∈ l, ActAt w x) ∧ Acts w u' l' ∧ ∀ x ∈ l', ActAt w x := by
  obtain ⟨xs, m, _, _, hl, hlen, hf⟩ := DataW.trod_array Try.underlying60 h
  rw [cellsTwo] at hl
  match cs, hl with
  | [c0, c1], _ =>
    match xs, hlen with
    | [y0, y1], _ =>
      have g0 := hf 0 (by decide)
      have g1 := hf 1 (by decide)
      rw [cellsActs] at g0 g1
      obtain ⟨A, n, c, l, e0, _, h0, h0'⟩ := open_acts g0
      obtain ⟨A', n', c', l', e1, _, h1, h1'⟩ := open_acts g1
      injection e0 with e0
      injection e1 with e1
      subst e0 e1
      exact ⟨_, _, l, l', rfl, h0, h0', h1, h1'⟩
end
namespace Dsk
/-- The same disk, with a failure set. -/
def setF (D : Dk) (k : Nat) (kp : List Int) : Dk := { D with fail := some (k, kp) }
theorem pass_set (D : Dk) (fs : List Fl) (k : Nat) (kp : List Int) : pass { setF D (k + 1) kp with fs := fs } = (setF { D with fs := fs } k kp, 0) := rfl
theorem pass_now (D : Dk) (fs : List Fl) (kp : List Int) : pass { setF D 0 kp with fs := fs } = (goDown { D with fs := fs } kp, 41) := rfl
/-- What an act that changes files does where no failure is set: and where one is. -/
structure Sim (D : Dk) (f : Dk → Dk × Int) (fs mid : List Fl) (r : Int) : Prop where
  plain : f D = ({ D with fs := fs }, r)
  bad : r ≠ 0 → fs = D.fs ∧ ∀ k kp, f (setF D k kp) = (setF D k kp, r)
  good : r = 0 → (∀ k kp, f (setF D (k + 1) kp) = (setF { D with fs := fs } k kp, 0)) ∧ ∀ kp, f (setF D 0 kp) = (goDown { D with fs := mid } kp, 41)
theorem sim_no {D : Dk} {f : Dk → Dk × Int} {r : Int} (hr : r ≠ 0) (h : f D = (D, r)) (h2 : ∀ k kp, f (setF D k kp) = (setF D k kp, r)) : Sim D f D.fs D.fs r :=
  ⟨h, fun _ => ⟨rfl, h2⟩, fun e => absurd e hr⟩
theorem change_plain {D : Dk} (hf : D.fail = none) (g : List Fl → List Fl) : change D g = ({ D with fs := g D.fs }, 0) := by
  obtain ⟨cap, fs, down, starts, fail⟩ := D
  simp only at hf
  subst hf
  rfl
theorem sim_change {D : Dk} (hd : D.down = false) (hf : D.fail = none) (g : List Fl → List Fl) {f : Dk → Dk × Int} (h : ∀ E, E.down = false → E.fs = D.fs → f E = change E g) : Sim D f (g D.fs) D.fs 0 :=
  ⟨(h D hd rfl).trans (change_plain hf g), fun e => absurd rfl e, fun _ => ⟨fun k kp => h (setF D (k + 1) kp) hd rfl, fun kp => h (setF D 0 kp) hd rfl⟩⟩
theorem ask_up {D : Dk} (hd : D.down = false) (nm : ByteArray) (what : Nat → Dk × Int) : ask D nm what = if nm ∉ names D.fs then (D, 4) else what (place (names D.fs) nm) := by
  unfold ask; rw [hd]; rfl
theorem sim_ask {D : Dk} (hd : D.down = false) (hf : D.fail = none) (nm : ByteArray) (c : Nat → Option (List Fl → List Fl)) {f : Dk → Dk × Int}
    (h : ∀ E : Dk, E.fs = D.fs → f E = ask E nm fun i => match c i with | none => (E, 2) | some g => change E g) : ∃ fs r, Sim D f fs D.fs r := by
  by_cases hm : nm ∈ names D.fs
  · have h' : ∀ E : Dk, E.down = false → E.fs = D.fs → f E = match c (place (names D.fs) nm) with | none => (E, 2) | some g => change E g := fun E h1 h2 => by
      rw [h E h2, ask_up h1, h2, if_neg (fun e => e hm)]
    cases hc : c (place (names D.fs) nm) with
    | none => exact ⟨_, 2, sim_no (by decide) (by rw [h' D hd rfl, hc]) fun k kp => by rw [h' (setF D k kp) hd rfl, hc]⟩
    | some g => exact ⟨_, 0, sim_change hd hf g fun E h1 h2 => by rw [h' E h1 h2, hc]⟩
  · have h' : ∀ E : Dk, E.down = false → E.fs = D.fs → f E = (E, 4) := fun E h1 h2 => by
      rw [h E h2, ask_up h1, h2, if_pos hm]
    exact ⟨_, 4, sim_no (by decide) (h' D hd rfl) fun k kp => h' (setF D k kp) hd rfl⟩
theorem sim_sync {D : Dk} (hd : D.down = false) (hf : D.fail = none) (nm : ByteArray) : ∃ fs r, Sim D (sync · nm) fs D.fs r :=
  sim_ask hd hf nm (fun i => some fun fs => fs.modify i syncF) fun _ _ => rfl
theorem sim_remove {D : Dk} (hd : D.down = false) (hf : D.fail = none) (nm : ByteArray) : ∃ fs r, Sim D (remove · nm) fs D.fs r :=
  sim_ask hd hf nm (fun _ => some fun fs => del fs nm) fun _ _ => rfl
theorem sim_truncate {D : Dk} (hd : D.down = false) (hf : D.fail = none) (nm : ByteArray) (n : Int) : ∃ fs r, Sim D (truncate · nm n) fs D.fs r :=
  sim_ask hd hf nm (fun i => if n < 0 ∨ (lenAt D.fs i : Int) < n then none else some fun fs => fs.modify i (truncF n.toNat)) fun E hE => by
    unfold truncate
    congr 1
    funext i
    rw [hE]
    split <;> rfl
theorem sim_rename {D : Dk} (hd : D.down = false) (hf : D.fail = none) (nm nw : ByteArray) : ∃ fs r, Sim D (rename · nm nw) fs D.fs r :=
  sim_ask hd hf nm (fun i => if isNm nw = false then none else some fun fs => renameF fs i nm nw) fun E hE => by
    unfold rename
    congr 1
    funext i
    split <;> rfl
theorem sim_append {D : Dk} (hd : D.down = false) (hf : D.fail = none) (nm s : ByteArray) : ∃ fs r, Sim D (append · nm s) fs fs r ∧ (r = 0 → fs = addTo D.fs nm s) := by
  obtain ⟨cap, fs, down, starts, fail⟩ := D
  simp only at hd hf
  subst hd hf
  cases hn : isNm nm
  · exact ⟨fs, 2, sim_no (by decide) (by unfold append; simp [hn]) (fun k kp => by unfold append setF; simp [hn]), fun h => by cases h⟩
  · by_cases hfl : (nm ∉ names fs ∧ 16 ≤ fs.length) ∨ cap < total fs + s.size
    · exact ⟨fs, 40, sim_no (by decide) (by unfold append; simp only [hn, Bool.false_eq_true, if_false, Bool.true_eq_false]; rw [if_pos hfl]) (fun k kp => by unfold append setF; simp only [hn, Bool.false_eq_true, if_false, Bool.true_eq_false]; rw [if_pos hfl]), fun h => by cases h⟩
    · refine ⟨addTo fs nm s, 0, ⟨?_, fun e => absurd rfl e, fun _ => ⟨fun k kp => ?_, fun kp => ?_⟩⟩, fun _ => rfl⟩
      · unfold append; simp only [hn, Bool.false_eq_true, if_false, Bool.true_eq_false]; rw [if_neg hfl]; rfl
      · unfold append setF; simp only [hn, Bool.false_eq_true, if_false, Bool.true_eq_false]; rw [if_neg hfl]; rfl
      · unfold append setF; simp only [hn, Bool.false_eq_true, if_false, Bool.true_eq_false]; rw [if_neg hfl]; rfl
theorem sim_act {D : Dk} (hd : D.down = false) (hf : D.fail = none) (x : ActV) (keep : List Int) (h8 : x.k % 12 < 8) : ∃ fs mid r, Sim D (act · x keep) fs mid r ∧ (r = 0 → mid = if x.k % 12 < 4 then addTo D.fs x.nm x.dt else D.fs) := by
  have hm : x.k % 12 = 0 ∨ x.k % 12 = 1 ∨ x.k % 12 = 2 ∨ x.k % 12 = 3 ∨ x.k % 12 = 4 ∨ x.k % 12 = 5 ∨ x.k % 12 = 6 ∨ x.k % 12 = 7 := by omega
  rcases hm with e | e | e | e | e | e | e | e
  · obtain ⟨fs, r, h1, h2⟩ := sim_append hd hf x.nm x.dt
    exact ⟨fs, fs, r, by unfold act; simpa [e] using h1, fun h => by rw [h2 h]; simp [e]⟩
  · obtain ⟨fs, r, h1, h2⟩ := sim_append hd hf x.nm x.dt
    exact ⟨fs, fs, r, by unfold act; simpa [e] using h1, fun h => by rw [h2 h]; simp [e]⟩
  · obtain ⟨fs, r, h1, h2⟩ := sim_append hd hf x.nm x.dt
    exact ⟨fs, fs, r, by unfold act; simpa [e] using h1, fun h => by rw [h2 h]; simp [e]⟩
  · obtain ⟨fs, r, h1, h2⟩ := sim_append hd hf x.nm x.dt
    exact ⟨fs, fs, r, by unfold act; simpa [e] using h1, fun h => by rw [h2 h]; simp [e]⟩
  · obtain ⟨fs, r, h1⟩ := sim_sync hd hf x.nm
    exact ⟨fs, D.fs, r, by unfold act; simpa [e] using h1, fun _ => by simp [e]⟩
  · obtain ⟨fs, r, h1⟩ := sim_truncate hd hf x.nm x.n
    exact ⟨fs, D.fs, r, by unfold act; simpa [e] using h1, fun _ => by simp [e]⟩
  · obtain ⟨fs, r, h1⟩ := sim_rename hd hf x.nm x.ot
    exact ⟨fs, D.fs, r, by unfold act; simpa [e] using h1, fun _ => by simp [e]⟩
  · obtain ⟨fs, r, h1⟩ := sim_remove hd hf x.nm
    exact ⟨fs, D.fs, r, by unfold act; simpa [e] using h1, fun _ => by simp [e]⟩
/-- What stands in the files behind an append. -/
theorem mem_addTo {fs : List Fl} (hr : Rise (names fs)) {nm s : ByteArray} {f : Fl} (h : f ∈ addTo fs nm s) : (f.name ≠ nm ∧ f ∈ fs) ∨ (f.name = nm ∧ f.data = (look fs nm).1 ++ s.data.toList) := by
  unfold addTo at h
  by_cases hm : nm ∈ names fs
  · simp only [hm, if_true] at h
    obtain ⟨hi, hn⟩ := place_mem' hr hm
    obtain ⟨j, hj, rfl⟩ := List.getElem_of_mem h
    rw [List.length_modify] at hj
    rw [List.getElem_modify]
    split
    · rename_i e
      subst e
      refine .inr ⟨hn, ?_⟩
      have h2 := look_at hr hi
      rw [hn] at h2
      rw [h2]
    · rename_i e
      refine .inl ⟨fun e2 => e ?_, List.getElem_mem hj⟩
      have h3 := (place_name hr hj).2
      rw [e2] at h3
      exact h3
  · simp only [hm, if_false] at h
    have hle := place_le' fs nm
    obtain ⟨j, hj, rfl⟩ := List.getElem_of_mem h
    rw [List.length_modify, List.length_insertIdx_of_le_length hle] at hj
    rw [List.getElem_modify]
    by_cases e : place (names fs) nm = j
    · subst e
      rw [if_pos rfl, List.getElem_insertIdx_self]
      exact .inr ⟨rfl, by rw [look_not hm]⟩
    · rw [if_neg e]
      have hmem : (fs.insertIdx (place (names fs) nm) ⟨nm, [], 0⟩)[j]'(by rw [List.length_insertIdx_of_le_length hle]; exact hj) ∈ fs := by
        rw [List.getElem_insertIdx]
        split
        · exact List.getElem_mem _
        · split
          · rename_i h1 h2
            exact absurd h2.symm e
          · exact List.getElem_mem _
      exact .inl ⟨fun e2 => hm (by rw [← e2]; exact List.mem_map_of_mem hmem), hmem⟩
/-- What is left behind a failure is a beginning of what was, or of that with what was appended. -/
theorem left_of {fs : List Fl} (hr : Rise (names fs)) {x : ActV} {kp : List Int} {f : Fl} (h : f ∈ crashed kp (if x.k % 12 < 4 then addTo fs x.nm x.dt else fs)) :
    ∃ l, f.data = l.take f.data.length ∧ f.data.length ≤ l.length ∧ ((x.k % 12 < 4 ∧ f.name = x.nm ∧ l = (look fs f.name).1 ++ x.dt.data.toList) ∨ (¬ (x.k % 12 < 4 ∧ f.name = x.nm) ∧ look fs f.name = (l, true))) := by
  obtain ⟨j, hj, rfl⟩ := List.getElem_of_mem h
  have hj' : j < (if x.k % 12 < 4 then addTo fs x.nm x.dt else fs).length := by rwa [crashed_len] at hj
  rw [crashed_at kp _ hj']
  have hmem := List.getElem_mem hj'
  generalize (if x.k % 12 < 4 then addTo fs x.nm x.dt else fs)[j] = g at *
  have hle := (crashF_ok kp j g).1
  refine ⟨g.data, ?_, hle, ?_⟩
  · show List.take _ _ = List.take (List.length (List.take _ _)) _
    rw [List.length_take, ← List.take_take, List.take_length]
  · show (x.k % 12 < 4 ∧ g.name = x.nm ∧ _) ∨ (¬ (x.k % 12 < 4 ∧ g.name = x.nm) ∧ look fs g.name = _)
    by_cases h4 : x.k % 12 < 4
    · rw [if_pos h4] at hmem
      rcases mem_addTo hr hmem with ⟨h1, h2⟩ | ⟨h1, h2⟩
      · exact .inr ⟨fun e => h1 e.2, look_mem hr h2⟩
      · exact .inl ⟨h4, h1, by rw [crashF_name, h1]; exact h2⟩
    · rw [if_neg h4] at hmem
      exact .inr ⟨fun e => h4 e.1, look_mem hr hmem⟩
theorem failSet_up {D : Dk} (hd : D.down = false) (n : Nat) (keep : List Int) : failSet D (n : Int) keep = (setF D n (keep.take 16), 0) := by
  obtain ⟨cap, fs, down, starts, fail⟩ := D
  simp only at hd
  subst hd
  unfold failSet
  rw [if_neg (by simp), if_neg (by omega)]
  rfl
theorem look_size {fs : List Fl} (hr : Rise (names fs)) (nm : ByteArray) : (look fs nm).1.length ≤ total fs := by
  by_cases h : nm ∈ names fs
  · obtain ⟨f, hf, rfl⟩ := List.mem_map.1 h
    rw [look_mem hr hf]
    have h1 : [f].Sublist fs := List.singleton_sublist.2 hf
    have h2 := total_sublist h1
    simpa [total] using h2
  · rw [look_not h]; exact Nat.zero_le _
end Dsk
end Go.Proofs.Ytdoajecpcepmiaa
