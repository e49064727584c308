/-
  The chapter's examples: works() returns true, and nothing that lay has changed.
-/
import Derived.Test.YtmdchepmojlbbaaERMost
namespace Go.Proofs.Ytmdchepmojlbbaa
open Go.RowKit
theorem lit_ints (w : World) (l : List Int) (hl : l.length ≤ 1000000) (t : TypeId) : Ints (w.alloc (.cells (l.map (Value.int .i64)).toArray t)) (.slice (some ⟨w.heap.size, 0, none⟩) l.length l.length) l := by
  refine ⟨_, _, rfl, Nat.le_refl _, Nat.le_trans hl (by decide), fun e => (by cases e), fun _ => ⟨w.heap.size, 0, rfl, by simp, fun j hj => ?_⟩⟩
  have h := World.alloc_heap_new w (.cells (l.map (Value.int .i64)).toArray t)
  simp only [World.cell?, h, Nat.zero_add]
  simp [hj, List.getD]
theorem ex1 : nextV 3 2 3 = .tuple #[.int .i64 6, .int .i64 0] := by kernel_rfl
theorem ex2 : nextV 1048576 0 3 = .tuple #[.int .i64 0, .int .i64 3] := by kernel_rfl
theorem ex3 : mostV [5, 1, 9] 3 = .tuple #[.int .i64 5, .bool true] := by
  unfold mostV; rw [Epo.most_is (l := [5, 1, 9]) (n := 3) (m := 5) (by decide) (by decide) (by decide) (by decide) ⟨by decide, by decide, by decide⟩]
theorem ex4 : mostV [5] 3 = .tuple #[.int .i64 0, .bool false] := most_out (by decide)
theorem ex5 : Epo.whose 4 3 = 0 := by kernel_rfl
theorem ex6 : Epo.whose 0 3 = -1 := by kernel_rfl
theorem ex7 : Epo.maj 4 = 3 := by kernel_rfl
set_option maxRecDepth 100000 in
set_option maxHeartbeats 2000000 in
theorem works_any (w : World) : Calls Try.prog 15 #[] w fun e w' => e = .returned (.bool true) ∧ Below w.heap.size w w' := by
  have H1 := Lib.hid (fun W => next_any 3 2 3 W)
  have H2 := Lib.hid (fun W => next_any 1048576 0 3 W)
  have H5 := Lib.hid (fun W => of_any 4 3 W)
  have H6 := Lib.hid (fun W => of_any 0 3 W)
  have H7 := Lib.hid (fun W => majority_any 4 W)
  rw [ex1] at H1
  rw [ex2] at H2
  rw [ex5] at H5
  rw [ex6] at H6
  rw [ex7] at H7
  go_enter Try.func15, Try.ntmps15
  go_wp2_with fail
  refine (H1.out _).mono ?_
  rintro e w1 ⟨rfl, rfl⟩
  go_wp2_with fail
  refine (H2.out _).mono ?_
  rintro e w2 ⟨rfl, rfl⟩
  go_wp2_with fail
  refine (most_any _ [5, 1, 9] 3 _ (lit_ints w [5, 1, 9] (by decide) 3)).mono ?_
  rintro e w3 ⟨rfl, hb3⟩
  have hb3' : Below w.heap.size w w3 := ((Below.refl _ w).alloc (Nat.le_refl _) _).trans (hb3.mono (by simp))
  clear hb3
  rw [ex3]
  go_wp2_with fail
  refine (most_any _ [5] 3 _ (lit_ints w3 [5] (by decide) 3)).mono ?_
  rintro e w4 ⟨rfl, hb4⟩
  have hb4' : Below w.heap.size w w4 := (hb3'.alloc hb3'.size _).trans (hb4.mono (by have := hb3'.size; simp; omega))
  clear hb4
  rw [ex4]
  go_wp2_with fail
  refine (H5.out _).mono ?_
  rintro e w5 ⟨rfl, rfl⟩
  go_wp2_with fail
  refine (H6.out _).mono ?_
  rintro e w6 ⟨rfl, rfl⟩
  go_wp2_with fail
  refine (H7.out _).mono ?_
  rintro e w7 ⟨rfl, rfl⟩
  go_wp2_with fail
  go_ret
  exact ⟨rfl, hb4'⟩
end Go.Proofs.Ytmdchepmojlbbaa
