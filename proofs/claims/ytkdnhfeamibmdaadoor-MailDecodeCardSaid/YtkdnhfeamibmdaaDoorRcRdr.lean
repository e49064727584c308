/-
  The document's reader of marks: Int.
-/
import Derived.Test.YtkdnhfeamibmdaaDoorRcNext
import Derived.Test.YtkdnhfeamibmdaaDoorORMay
import Derived.Lib.QuietBelow
import Derived.BigQuiet
namespace Go.Proofs.YtkdnhfeamibmdaaDoor
open Go.RowKit Go.Sort
/-- The document's reader lies in block m: the text, how far, does one lack? -/
def RrAt (w : World) (m : Nat) (s : ByteArray) (a : Nat) (f : Bool) : Prop := w.heap[m]? = some (.cells #[.string s, .int .i64 a, .bool f] 84 (0, 0))
theorem RrAt.lt {w : World} {m : Nat} {s : ByteArray} {a : Nat} {f : Bool} (h : RrAt w m s a f) : m < w.heap.size := (Array.getElem?_eq_some_iff.1 h).1
theorem RrAt.foot {S : Nat → Prop} {w w' : World} {m : Nat} {s : ByteArray} {a : Nat} {f : Bool} (h : RrAt w m s a f) (hf : Foot S w w') (hn : ¬ S m) : RrAt w' m s a f := hf.kept h hn
theorem RrAt.below {w w' : World} {m : Nat} {s : ByteArray} {a : Nat} {f : Bool} (h : RrAt w m s a f) (hb : Below w.heap.size w w') : RrAt w' m s a f := (hb.block m h.lt).trans h
theorem RrAt.set1 {w : World} {m : Nat} {s : ByteArray} {a b : Nat} {f : Bool} (h : RrAt w m s a f) : RrAt (w.setCell ⟨m, 1, none⟩ (.int .i64 (b : Int))) m s b f := heap_set _ h
theorem RrAt.set2 {w : World} {m : Nat} {s : ByteArray} {a : Nat} {f g : Bool} (h : RrAt w m s a f) : RrAt (w.setCell ⟨m, 2, none⟩ (.bool g)) m s a g := heap_set _ h
theorem RrAt.cells {w : World} {m : Nat} {s : ByteArray} {a : Nat} {f : Bool} (h : RrAt w m s a f) : w.cell? ⟨m, 0, none⟩ = some (.string s) ∧ w.cell? ⟨m, 1, none⟩ = some (.int .i64 a) ∧ w.cell? ⟨m, 2, none⟩ = some (.bool f) ∧ w.frozen? ⟨m, 1, none⟩ = false ∧ w.frozen? ⟨m, 2, none⟩ = false :=
  ⟨by rw [Lib.cell_of_heap h]; rfl, by rw [Lib.cell_of_heap h]; rfl, by rw [Lib.cell_of_heap h]; rfl, Lib.frozen_of_heap h 1, Lib.frozen_of_heap h 2⟩
def IntPost (s : ByteArray) (m a : Nat) (f : Bool) (w : World) (e : Ending) (w' : World) : Prop :=
  e = .returned (.int .i64 (ri (bytesOf s) a f).1) ∧ RrAt w' m s (ri (bytesOf s) a f).2.1 (ri (bytesOf s) a f).2.2 ∧ Foot (fun j => j = m) w w'
set_option maxRecDepth 100000 in
set_option maxHeartbeats 2000000 in
theorem rint_any {s : ByteArray} (hs : s.size ≤ 1000000) {m a : Nat} {f : Bool} {w : World} (h : RrAt w m s a f) :
    Calls Tryd.prog 41 #[.pointer (some ⟨m, 0, none⟩)] w (IntPost s m a f w) := by
  have hs' : s.size ≤ maxLen := by unfold maxLen; omega
  have HR := Lib.hid h
  have hmlt := h.lt
  obtain ⟨c0, c1, -, -, -⟩ := h.cells
  have k0 : ∀ d' os, (grow (redrawn w d') os).cell? ⟨m, 0, none⟩ = some (.string s) := fun d' os => cell_regrown c0 d' os
  have k1 : ∀ d' os, (grow (redrawn w d') os).cell? ⟨m, 1, none⟩ = some (.int .i64 a) := fun d' os => cell_regrown c1 d' os
  clear c0 c1 h
  rcases hg : got (bytesOf s) (a : Int) with _ | ⟨n, b⟩
  · have HRI : Hid (ri (bytesOf s) a f = (0, a, true)) := by show _ = _; unfold ri; rw [hg]; cases f <;> rfl
    have g0 : ∀ d' os, Calls Tryd.prog 67 #[.string s, .int .i64 a] (grow (redrawn w d') os) fun e w'' => e = .returned (.tuple #[.int .i64 0, .int .i64 0, .bool false]) ∧ ∃ p : Regrown, w'' = grow (redrawn w p.d) p.os := fun d' os =>
      Calls.regrown_of ((rget_any s a _ hs').mono fun e w' h => ⟨by rw [h.2, hg]; rfl, h.1⟩)
    clear hg hs'
    go_enter Tryd.func41, Tryd.ntmps41
    go_wp2_with fail
    refine wp_region_quiet_below (by kernel_rfl) (by kernel_rfl) ?_
    repeat (go_big_quiet_step (with_reducible exact g0 _ _))
    refine wpQuiet_nil ?_
    intro _ hw'
    obtain ⟨⟨dq, osq⟩, hw''⟩ := hw'
    subst hw''
    have hbq := below_regrown w dq osq
    generalize grow (redrawn w dq) osq = u at *
    clear k0 k1 g0
    have HR2 := Lib.hid (HR.out.below hbq)
    obtain ⟨-, -, c2, -, f2⟩ := HR2.out.cells
    have HF : Hid (Foot (fun j => j = m) w u) := below_foot hbq
    clear hbq
    unfold IntPost
    cases f
    all_goals
      go_wp2_with fail
      go_ret
      exact ⟨by rw [HRI.out]; rfl, by rw [HRI.out]; exact RrAt.set2 HR2.out, HF.out.trans (Foot.set (fun j => j = m) _ _ _ rfl) (fun _ _ h => h)⟩
  · have g0 : ∀ d' os, Calls Tryd.prog 67 #[.string s, .int .i64 a] (grow (redrawn w d') os) fun e w'' => e = .returned (.tuple #[.int .i64 n, .int .i64 b, .bool true]) ∧ ∃ p : Regrown, w'' = grow (redrawn w p.d) p.os := fun d' os =>
      Calls.regrown_of ((rget_any s a _ hs').mono fun e w' h => ⟨by rw [h.2, hg]; rfl, h.1⟩)
    have HGT := Lib.hid hg
    clear hg hs'
    go_enter Tryd.func41, Tryd.ntmps41
    go_wp2_with fail
    refine wp_region_quiet_below (by kernel_rfl) (by kernel_rfl) ?_
    repeat (go_big_quiet_step (with_reducible exact g0 _ _))
    refine wpQuiet_nil ?_
    intro _ hw'
    obtain ⟨⟨dq, osq⟩, hw''⟩ := hw'
    subst hw''
    have hbq := below_regrown w dq osq
    generalize grow (redrawn w dq) osq = u at *
    clear k0 k1 g0
    have HR2 := Lib.hid (HR.out.below hbq)
    obtain ⟨-, c1, c2, f1, f2⟩ := HR2.out.cells
    have HF : Hid (Foot (fun j => j = m) w u) := below_foot hbq
    clear hbq
    cases f
    · have HRI : Hid (ri (bytesOf s) a false = (n, b, false)) := ri_of HGT.out
      go_wp2_with fail
      go_ret
      exact ⟨by rw [HRI.out]; rfl, by rw [HRI.out]; exact RrAt.set1 (a := a) HR2.out, HF.out.trans (Foot.set (fun j => j = m) _ _ _ rfl) (fun _ _ h => h)⟩
    · have HRI : Hid (ri (bytesOf s) a true = (0, a, true)) := rfl
      go_wp2_with fail
      go_ret
      exact ⟨by rw [HRI.out]; rfl, by rw [HRI.out]; exact RrAt.set2 HR2.out, HF.out.trans (Foot.set (fun j => j = m) _ _ _ rfl) (fun _ _ h => h)⟩
end Go.Proofs.YtkdnhfeamibmdaaDoor
