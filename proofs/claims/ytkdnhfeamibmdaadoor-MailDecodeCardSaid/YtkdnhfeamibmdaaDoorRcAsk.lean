/-
  What is asked of a record's numbers, of an entry, of a spot, by package records.
-/
import Derived.Test.YtkdnhfeamibmdaaDoorRcMem
import Derived.Test.YtkdnhfeamibmdaaDoorOCheck
namespace Go.Proofs.YtkdnhfeamibmdaaDoor
open Go.RowKit
def inb (a b n : Int) : Bool := decide (a ≤ n) && decide (n ≤ b)
set_option maxRecDepth 100000 in
set_option maxHeartbeats 1000000 in
theorem has_any (a b n : Int) (w : World) : Calls Tryd.prog 60 #[.agg #[.int .i64 a, .int .i64 b], .int .i64 n] w (NumPost (.bool (inb a b n)) w) := by
  have HI : Hid (inb a b n = (decide (a ≤ n) && decide (n ≤ b))) := rfl
  generalize inb a b n = r at *
  by_cases h1 : a ≤ n
  · have t1 : decide (a ≤ n) = true := decide_eq_true h1
    by_cases h2 : n ≤ b
    · have t2 : decide (n ≤ b) = true := decide_eq_true h2
      go_enter Tryd.func60, Tryd.ntmps60
      go_wp2_with fail
      go_ret
      exact ⟨by rw [HI.out, t1, t2]; rfl, (Below.refl _ _).alloc (Nat.le_refl _) _⟩
    · have t2 : decide (n ≤ b) = false := decide_eq_false h2
      go_enter Tryd.func60, Tryd.ntmps60
      go_wp2_with fail
      go_ret
      exact ⟨by rw [HI.out, t1, t2]; rfl, (Below.refl _ _).alloc (Nat.le_refl _) _⟩
  · have t1 : decide (a ≤ n) = false := decide_eq_false h1
    go_enter Tryd.func60, Tryd.ntmps60
    go_wp2_with fail
    go_ret
    exact ⟨by rw [HI.out, t1]; rfl, (Below.refl _ _).alloc (Nat.le_refl _) _⟩
set_option maxRecDepth 100000 in
set_option maxHeartbeats 1000000 in
theorem isSpot_any (x : Sp) (w : World) (hA : AskR w) : Calls Tryd.prog 38 #[.agg #[.int .i64 x.st, .int .i64 x.ix]] w (NumPost (.bool x.may) w) := by
  have HM : Hid (x.may = (inb 0 3 x.st && inb 0 63 x.ix)) := by
    show _ = _
    unfold Sp.may inb
    rw [Bool.eq_iff_iff]; simp; omega
  have H1 := Lib.hid (fun X => has_any 0 3 x.st X)
  have H2 := Lib.hid (fun X => has_any 0 63 x.ix X)
  generalize x.may = my at *
  generalize inb 0 3 x.st = b1 at *
  generalize inb 0 63 x.ix = b2 at *
  obtain ⟨st, ix⟩ := x
  dsimp only at *
  have hb0 : Below w.heap.size w (w.alloc (.cells #[.int .i64 st, .int .i64 ix] 32)) := (Below.refl _ _).alloc (Nat.le_refl _) _
  obtain ⟨_, ⟨a1, a2⟩, _, _, _, ⟨d1, d2⟩, _⟩ := hA.keep hb0
  have B0 : (w.alloc (.cells #[.int .i64 st, .int .i64 ix] 32)).heap[w.heap.size]? = some (.cells #[.int .i64 st, .int .i64 ix] 32 (0, 0)) := heap_alloc_new _ _
  go_enter Tryd.func38, Tryd.ntmps38
  go_wp2_with fail
  refine (H1.out _).mono ?_
  rintro e w1 ⟨rfl, hb1⟩
  have c1 : w1.cell? ⟨w.heap.size, 1, none⟩ = some (.int .i64 ix) := by rw [Lib.cell_of_heap ((hb1.block _ (by simp)).trans B0)]; rfl
  have hb2 := hb0.trans (hb1.mono hb0.size)
  obtain ⟨_, _, _, _, _, ⟨d1, d2⟩, _⟩ := hA.keep hb2
  clear hb1 a1 a2
  cases b1
  · go_wp2_with fail
    go_ret
    exact ⟨by rw [HM.out]; rfl, hb2⟩
  · go_wp2_with fail
    refine (H2.out _).mono ?_
    rintro e w2 ⟨rfl, hb3⟩
    go_wp2_with fail
    go_ret
    exact ⟨by rw [HM.out]; rfl, hb2.trans (hb3.mono hb2.size)⟩
set_option maxRecDepth 100000 in
set_option maxHeartbeats 1000000 in
theorem isEntry_any (x : En) (st : Int) (w : World) (hA : AskR w) : Calls Tryd.prog 37 #[.agg #[.int .i64 x.ep, .int .i64 x.o.id, .int .i64 x.o.st, .int .i64 x.o.ex, .int .i64 x.o.ki, .int .i64 x.o.ar], .int .i64 st] w (NumPost (.bool (x.may st)) w) := by
  have HM : Hid (x.may st = (inb 1 1048576 x.ep && (decide (x.o.st = st) && x.o.may))) := by
    show _ = _
    unfold En.may inb
    congr 1
    rw [Bool.eq_iff_iff]; simp
  have H1 := Lib.hid (fun X => has_any 1 1048576 x.ep X)
  have H2 := Lib.hid (fun X hX => check_any x.o X hX)
  have HE := Lib.hid (show x.o.err = if x.o.may then 0 else 2 from rfl)
  generalize x.may st = my at *
  generalize inb 1 1048576 x.ep = b1 at *
  generalize x.o.err = er at *
  generalize x.o.may = b2 at *
  obtain ⟨ep, id, os, ex, ki, ar⟩ := x
  simp only [Od.v] at *
  have hb0 : Below w.heap.size w (w.alloc (.cells #[.int .i64 ep, .int .i64 id, .int .i64 os, .int .i64 ex, .int .i64 ki, .int .i64 ar] 30)) := (Below.refl _ _).alloc (Nat.le_refl _) _
  obtain ⟨_, _, ⟨a1, a2⟩, _⟩ := hA.keep hb0
  have B0 : (w.alloc (.cells #[.int .i64 ep, .int .i64 id, .int .i64 os, .int .i64 ex, .int .i64 ki, .int .i64 ar] 30)).heap[w.heap.size]? = some (.cells #[.int .i64 ep, .int .i64 id, .int .i64 os, .int .i64 ex, .int .i64 ki, .int .i64 ar] 30 (0, 0)) := heap_alloc_new _ _
  go_enter Tryd.func37, Tryd.ntmps37
  go_wp2_with fail
  refine (H1.out _).mono ?_
  rintro e w1 ⟨rfl, hb1⟩
  have BB := (hb1.block _ (by simp)).trans B0
  have c1 : w1.cell? ⟨w.heap.size, 1, none⟩ = some (.int .i64 id) := by rw [Lib.cell_of_heap BB]; rfl
  have c2 : w1.cell? ⟨w.heap.size, 2, none⟩ = some (.int .i64 os) := by rw [Lib.cell_of_heap BB]; rfl
  have c3 : w1.cell? ⟨w.heap.size, 3, none⟩ = some (.int .i64 ex) := by rw [Lib.cell_of_heap BB]; rfl
  have c4 : w1.cell? ⟨w.heap.size, 4, none⟩ = some (.int .i64 ki) := by rw [Lib.cell_of_heap BB]; rfl
  have c5 : w1.cell? ⟨w.heap.size, 5, none⟩ = some (.int .i64 ar) := by rw [Lib.cell_of_heap BB]; rfl
  have hb2 := hb0.trans (hb1.mono hb0.size)
  have hA2 := hA.keep hb2
  clear hb1 a1 a2 BB B0
  cases b1
  · go_wp2_with fail
    go_ret
    exact ⟨by rw [HM.out]; rfl, hb2⟩
  · by_cases hs : os = st
    · have t : decide (os = st) = true := decide_eq_true hs
      have HT := Lib.hid t
      subst hs
      clear t
      cases b2
      all_goals
        obtain rfl := HE.out
        go_wp2_with fail
        refine (H2.out _ hA2.1).mono ?_
        rintro e w2 ⟨rfl, hb3⟩
        go_wp2_with fail
        go_ret
        exact ⟨by rw [HM.out, HT.out]; rfl, hb2.trans (hb3.mono hb2.size)⟩
    · have t : decide (os = st) = false := decide_eq_false hs
      go_wp2_with fail
      go_ret
      exact ⟨by rw [HM.out, t]; rfl, hb2⟩
end Go.Proofs.YtkdnhfeamibmdaaDoor
