/-
  Disks in plain words: names in their order, files, and what each call does. No program in this text.
-/
import Derived.Test.YtceldekbkffhpaaRows
import Derived.WalkKit
import Derived.WalkSpells
import Derived.WalkLawsBesides
import Derived.Lib.Strings
import Derived.Lib.IndexBytes
import Derived.Lib.Hide
namespace Go.Proofs.Ytceldekbkffhpaa
open Go.RowKit
namespace Dsk
theorem bytesLess_eq : ∀ (x y : List UInt8), Op.bytesLess x y = decide (x < y)
  | [], [] => by simp [Op.bytesLess]
  | _ :: _, [] => by simp [Op.bytesLess]
  | [], _ :: _ => by simp [Op.bytesLess]
  | a :: x, b :: y => by
    rw [Op.bytesLess, bytesLess_eq x y]
    simp only [List.cons_lt_cons_iff]
    by_cases h1 : a < b <;> by_cases h2 : a = b <;> by_cases h3 : x < y <;> simp [h1, h2, h3]
instance decBA : DecidableEq ByteArray := fun a b => decidable_of_iff (a.data = b.data) ⟨fun h => ByteArray.ext h, fun h => by rw [h]⟩
instance decMem (nm : ByteArray) (ns : List ByteArray) : Decidable (nm ∈ ns) := decidable_of_iff (ns.any (fun n => decide (n = nm)) = true) (by simp)
/-- One name is ahead of another. -/
def nlt (a b : ByteArray) : Bool := Op.bytesLess a.toList b.toList
theorem tl_inj {a b : ByteArray} (h : a.toList = b.toList) : a = b := by
  rw [Lib.toList_data, Lib.toList_data] at h
  exact ByteArray.ext (Array.toList_inj.1 h)
theorem nlt_irrefl (a : ByteArray) : nlt a a = false := by
  unfold nlt; rw [bytesLess_eq]; exact decide_eq_false (List.lt_irrefl _)
theorem nlt_trans {a b c : ByteArray} (h : nlt a b = true) (k : nlt b c = true) : nlt a c = true := by
  unfold nlt at *; rw [bytesLess_eq] at *
  exact decide_eq_true (List.lt_trans (of_decide_eq_true h) (of_decide_eq_true k))
theorem nlt_asymm {a b : ByteArray} (h : nlt a b = true) : nlt b a = false := by
  cases k : nlt b a
  · rfl
  · exact absurd (nlt_trans h k) (by rw [nlt_irrefl]; simp)
theorem nlt_total {a b : ByteArray} (h : nlt a b = false) (k : a ≠ b) : nlt b a = true := by
  unfold nlt at *; rw [bytesLess_eq] at *
  have h1 := of_decide_eq_false h
  rw [List.not_lt] at h1
  refine decide_eq_true ?_
  rcases List.le_iff_lt_or_eq.1 h1 with h2 | h2
  · exact h2
  · exact absurd (tl_inj h2).symm k
/-- Names that rise, each once. -/
def Rise (ns : List ByteArray) : Prop := ns.Pairwise (fun a b => nlt a b = true)
/-- How many names are ahead of this one. -/
def place (ns : List ByteArray) (nm : ByteArray) : Nat := (ns.takeWhile fun n => nlt n nm).length
theorem place_le (ns : List ByteArray) (nm : ByteArray) : place ns nm ≤ ns.length := by
  unfold place
  exact (List.takeWhile_prefix _).length_le
theorem place_nil (nm : ByteArray) : place [] nm = 0 := rfl
theorem place_cons (n : ByteArray) (ns : List ByteArray) (nm : ByteArray) : place (n :: ns) nm = if nlt n nm then place ns nm + 1 else 0 := by
  unfold place
  rw [List.takeWhile_cons]
  cases nlt n nm <;> simp
theorem before {nm : ByteArray} : ∀ {ns : List ByteArray} {i : Nat} (_ : i < place ns nm) (h' : i < ns.length), nlt ns[i] nm = true
  | [], i, h, _ => by simp [place_nil] at h
  | n :: ns, i, h, h' => by
    rw [place_cons] at h
    cases hn : nlt n nm
    · rw [hn] at h; simp at h
    · rw [hn] at h
      simp only [if_true] at h
      rcases i with _ | i
      · exact hn
      · simpa using before (ns := ns) (i := i) (by omega) (by simpa using h')
theorem behind {nm : ByteArray} : ∀ {ns : List ByteArray} (_ : Rise ns) {i : Nat} (_ : place ns nm ≤ i) (h' : i < ns.length), nlt ns[i] nm = false
  | [], _, i, _, h' => by simp at h'
  | n :: ns, hr, i, h, h' => by
    rw [place_cons] at h
    have hr' := List.pairwise_cons.1 hr
    cases hn : nlt n nm
    · rcases i with _ | i
      · exact hn
      · have hi : i < ns.length := by simpa using h'
        have h1 := hr'.1 ns[i] (List.getElem_mem hi)
        show nlt ns[i] nm = false
        cases h2 : nlt ns[i] nm
        · rfl
        · rw [nlt_trans h1 h2] at hn; cases hn
    · rw [hn] at h
      simp only [if_true] at h
      rcases i with _ | i
      · omega
      · simpa using behind hr'.2 (i := i) (by omega) (by simpa using h')
theorem place_of {ns : List ByteArray} (hr : Rise ns) {nm : ByteArray} {i : Nat} (hi : i ≤ ns.length) (h1 : ∀ t (h : t < ns.length), t < i → nlt ns[t] nm = true) (h2 : ∀ t (h : t < ns.length), i ≤ t → nlt ns[t] nm = false) : place ns nm = i := by
  have hp := place_le ns nm
  rcases Nat.lt_trichotomy (place ns nm) i with h | h | h
  · have := h1 (place ns nm) (by omega) h
    rw [behind hr (Nat.le_refl _) (by omega)] at this
    cases this
  · exact h
  · have := before (ns := ns) (i := i) h (by omega)
    rw [h2 i (by omega) (Nat.le_refl _)] at this
    cases this
theorem Rise.at_ {ns : List ByteArray} (hr : Rise ns) {i j : Nat} (h : i < j) (hj : j < ns.length) : nlt (ns[i]'(by omega)) ns[j] = true :=
  List.pairwise_iff_getElem.1 hr i j (by omega) hj h
theorem place_at {ns : List ByteArray} (hr : Rise ns) {i : Nat} (hi : i < ns.length) : place ns ns[i] = i :=
  place_of hr (Nat.le_of_lt hi) (fun _ h h1 => hr.at_ h1 hi) (fun t h h1 => by
    rcases Nat.lt_or_ge i t with h2 | h2
    · exact nlt_asymm (hr.at_ h2 h)
    · obtain rfl : t = i := by omega
      exact nlt_irrefl _)
theorem place_mem {ns : List ByteArray} (hr : Rise ns) {nm : ByteArray} (h : nm ∈ ns) : ∃ hi : place ns nm < ns.length, ns[place ns nm] = nm := by
  obtain ⟨i, hi, rfl⟩ := List.getElem_of_mem h
  have := place_at hr hi
  refine ⟨by rw [this]; exact hi, ?_⟩
  congr 1
theorem there_iff {ns : List ByteArray} (hr : Rise ns) {nm : ByteArray} : nm ∈ ns ↔ (place ns nm < ns.length ∧ ns[place ns nm]? = some nm) := by
  constructor
  · intro h
    obtain ⟨h1, h2⟩ := place_mem hr h
    exact ⟨h1, by rw [List.getElem?_eq_getElem h1, h2]⟩
  · rintro ⟨h1, h2⟩
    rw [List.getElem?_eq_getElem h1] at h2
    injection h2 with h2
    exact List.mem_of_getElem h2
theorem Rise.ins {ns : List ByteArray} (hr : Rise ns) {nm : ByteArray} (h : nm ∉ ns) : Rise (ns.insertIdx (place ns nm) nm) := by
  induction ns with
  | nil => simp [Rise, place_nil]
  | cons n ns ih =>
    have hr' := List.pairwise_cons.1 hr
    have hne : n ≠ nm := fun e => h (by simp [e])
    rw [place_cons]
    cases hn : nlt n nm
    · simp only [Bool.false_eq_true, if_false, List.insertIdx_zero]
      have h0 := nlt_total hn hne
      refine List.pairwise_cons.2 ⟨fun b hb => ?_, hr⟩
      rcases List.mem_cons.1 hb with rfl | hb
      · exact h0
      · exact nlt_trans h0 (hr'.1 b hb)
    · simp only [if_true, List.insertIdx_succ_cons]
      refine List.pairwise_cons.2 ⟨fun b hb => ?_, ih hr'.2 (fun e => h (by simp [e]))⟩
      rcases (List.mem_insertIdx (place_le ns nm)).1 hb with rfl | hb
      · exact hn
      · exact hr'.1 b hb
theorem Rise.del {ns : List ByteArray} (hr : Rise ns) (i : Nat) : Rise (ns.eraseIdx i) := List.Pairwise.sublist (List.eraseIdx_sublist _ _) hr
theorem Rise.not_del {ns : List ByteArray} (hr : Rise ns) {nm : ByteArray} (h : nm ∈ ns) : nm ∉ ns.eraseIdx (place ns nm) := by
  obtain ⟨h1, h2⟩ := place_mem hr h
  intro hm
  obtain ⟨j, hj, hjj⟩ := List.mem_eraseIdx_iff_getElem.1 hm
  have := place_at hr hj
  rw [hjj.2] at this
  exact hjj.1 this.symm

/-! ### Files, disks -/
structure Fl where
  name : ByteArray
  data : List UInt8
  sure : Nat
structure Dk where
  cap : Nat
  fs : List Fl
  down : Bool
  starts : Nat
  fail : Option (Nat × List Int)
def names (fs : List Fl) : List ByteArray := fs.map Fl.name
def total (fs : List Fl) : Nat := (fs.map fun f => f.data.length).sum
/-- Of so many bytes that are not synced, how many a crash keeps of the file at that place. -/
def kept (keep : List Int) (i n : Nat) : Nat := if i < keep.length then (max 0 (min (keep.getD i 0) (n : Int))).toNat else 0
def crashF (keep : List Int) (i : Nat) (f : Fl) : Fl :=
  ⟨f.name, f.data.take (f.sure + kept keep i (f.data.length - f.sure)), f.sure + kept keep i (f.data.length - f.sure)⟩
def crashed (keep : List Int) (fs : List Fl) : List Fl := fs.mapIdx (crashF keep)
def goDown (D : Dk) (keep : List Int) : Dk := { D with fs := crashed keep D.fs, down := true, fail := none }
/-- A change passes, or the failure comes by it. -/
def pass (D : Dk) : Dk × Int := match D.fail with
  | none => (D, 0)
  | some (k + 1, keep) => ({ D with fail := some (k, keep) }, 0)
  | some (0, keep) => (goDown D keep, 41)
def isNm (s : ByteArray) : Bool := decide (1 ≤ s.size) && decide (s.size ≤ 16)
/-- What changes the files: passes first, then is done. -/
def change (D : Dk) (g : List Fl → List Fl) : Dk × Int :=
  if (pass D).2 = 0 then ({ (pass D).1 with fs := g D.fs }, 0) else pass D
def addTo (fs : List Fl) (nm s : ByteArray) : List Fl :=
  let fs1 := if nm ∈ names fs then fs else fs.insertIdx (place (names fs) nm) ⟨nm, [], 0⟩
  fs1.modify (place (names fs) nm) fun f => { f with data := f.data ++ s.data.toList }
def append (D : Dk) (nm s : ByteArray) : Dk × Int :=
  if D.down then (D, 41)
  else if isNm nm = false then (D, 2)
  else if (nm ∉ names D.fs ∧ 16 ≤ D.fs.length) ∨ D.cap < total D.fs + s.size then (D, 40)
  else pass { D with fs := addTo D.fs nm s }
def ask (D : Dk) (nm : ByteArray) (what : Nat → Dk × Int) : Dk × Int :=
  if D.down then (D, 41) else if nm ∉ names D.fs then (D, 4) else what (place (names D.fs) nm)
def syncF (f : Fl) : Fl := { f with sure := f.data.length }
def sync (D : Dk) (nm : ByteArray) : Dk × Int := ask D nm fun i => change D fun fs => fs.modify i syncF
def truncF (n : Nat) (f : Fl) : Fl := ⟨f.name, f.data.take n, min f.sure n⟩
def lenAt (fs : List Fl) (i : Nat) : Nat := ((fs[i]?).map fun f => f.data.length).getD 0
def truncate (D : Dk) (nm : ByteArray) (n : Int) : Dk × Int := ask D nm fun i =>
  if n < 0 ∨ (lenAt D.fs i : Int) < n then (D, 2) else change D fun fs => fs.modify i (truncF n.toNat)
def del (fs : List Fl) (nm : ByteArray) : List Fl := if nm ∈ names fs then fs.eraseIdx (place (names fs) nm) else fs
def put (fs : List Fl) (f : Fl) : List Fl := fs.insertIdx (place (names fs) f.name) f
def renameF (fs : List Fl) (i : Nat) (from_ to : ByteArray) : List Fl :=
  match fs[i]? with
  | none => fs
  | some f => put (del (del fs from_) to) { f with name := to }
def rename (D : Dk) (from_ to : ByteArray) : Dk × Int := ask D from_ fun i =>
  if isNm to = false then (D, 2) else change D fun fs => renameF fs i from_ to
def remove (D : Dk) (nm : ByteArray) : Dk × Int := ask D nm fun _ => change D fun fs => del fs nm
def read (D : Dk) (nm : ByteArray) : List UInt8 × Int :=
  if D.down then ([], 41) else if nm ∉ names D.fs then ([], 4) else (((D.fs[place (names D.fs) nm]?).map Fl.data).getD [], 0)
def crash (D : Dk) (keep : List Int) : Dk × Int := if D.down then (D, 41) else (goDown D keep, 0)
def failSet (D : Dk) (n : Int) (keep : List Int) : Dk × Int :=
  if D.down then (D, 41) else if n < 0 then (D, 2) else ({ D with fail := some (n.toNat, keep.take 16) }, 0)
def start (D : Dk) : Dk × Int := if D.down then ({ D with down := false, starts := D.starts + 1 }, 0) else (D, 2)
def unsynced (fs : List Fl) : List Int := fs.map fun f => ((f.data.length - f.sure : Nat) : Int)
def new (cap : Nat) : Dk := ⟨cap, [], false, 0, none⟩
end Dsk
end Go.Proofs.Ytceldekbkffhpaa
