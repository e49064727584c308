/-
  Books that are none; the walk of the law LeasesNone.
-/
import Derived.Test.YtopdjmjlnflhfaaBkOn
import Derived.Test.YtopdjmjlnflhfaaRows
namespace Go.Proofs.Ytopdjmjlnflhfaa
open Go.RowKit Go.Sort Go.Maps
/-- A pointer to no book. -/
def NoBk (w : World) (v : Value) : Prop := v = .pointer none ∨ ∃ c, v = .pointer (some ⟨c, 0, none⟩) ∧ w.heap[c]? = some (.cells #[.int .i64 0, .map none] 31 (0, 0))
set_option maxRecDepth 100000 in
theorem isNone_yes {w : World} {v : Value} (h : NoBk w v) : Calls Try.prog 12 #[v] w fun e w' => e = .returned (.bool true) ∧ w = w' := by
  rcases h with rfl | ⟨c, rfl, h⟩
  · go_enter Try.func12, Try.ntmps12
    go_wp2
    go_ret
    exact ⟨rfl, rfl⟩
  · have c1 : w.cell? ⟨c, 1, none⟩ = some (.map none) := cell_of_row w c _ _ _ _ h
    have heq := map_nil_yes
    clear h
    go_enter Try.func12, Try.ntmps12
    go_wp2
    go_ret
    exact ⟨rfl, rfl⟩
set_option maxRecDepth 100000 in
theorem holder_no {w : World} {v : Value} (s e : Int) (h : NoBk w v) : Calls Try.prog 6 #[v, .int .i64 s, .int .i64 e] w fun x w' => x = .returned (.tuple #[.int .i64 0, .bool false]) ∧ w = w' := by
  have HN := Lib.hid (isNone_yes h)
  clear h
  go_enter Try.func6, Try.ntmps6
  go_wp2_with fail
  refine HN.out.mono ?_
  rintro x w1 ⟨rfl, rfl⟩
  go_wp2_with fail
  go_ret2
  exact ⟨rfl, rfl⟩
set_option maxRecDepth 100000 in
theorem may_no {w : World} {v : Value} (s e t : Int) (h : NoBk w v) : Calls Try.prog 7 #[v, .int .i64 s, .int .i64 e, .int .i64 t] w fun x w' => x = .returned (.bool false) ∧ w = w' := by
  have HN := Lib.hid (isNone_yes h)
  clear h
  go_enter Try.func7, Try.ntmps7
  go_wp2_with fail
  refine HN.out.mono ?_
  rintro x w1 ⟨rfl, rfl⟩
  go_wp2_with fail
  go_ret
  exact ⟨rfl, rfl⟩
set_option maxRecDepth 100000 in
theorem grant_no {w : World} {v : Value} (s e t : Int) (h : NoBk w v) : Calls Try.prog 8 #[v, .int .i64 s, .int .i64 e, .int .i64 t] w fun x w' => x = .returned (.int .i64 1) ∧ w = w' := by
  have HN := Lib.hid (isNone_yes h)
  clear h
  go_enter Try.func8, Try.ntmps8
  go_wp2_with fail
  refine HN.out.mono ?_
  rintro x w1 ⟨rfl, rfl⟩
  go_wp2_with fail
  go_ret
  exact ⟨rfl, rfl⟩
set_option maxRecDepth 100000 in
theorem release_no {w : World} {v : Value} (s e : Int) (h : NoBk w v) : Calls Try.prog 9 #[v, .int .i64 s, .int .i64 e] w fun x w' => x = .returned (.int .i64 1) ∧ w = w' := by
  have HN := Lib.hid (isNone_yes h)
  clear h
  go_enter Try.func9, Try.ntmps9
  go_wp2_with fail
  refine HN.out.mono ?_
  rintro x w1 ⟨rfl, rfl⟩
  go_wp2_with fail
  go_ret
  exact ⟨rfl, rfl⟩
namespace leasesNoneW
set_option maxRecDepth 100000 in
set_option maxHeartbeats 2000000 in
theorem walk (s e t : Int) (w : World) (_ : (Lit.int .i64 s).wf = true) (_ : (Lit.int .i64 e).wf = true) (_ : (Lit.int .i64 t).wf = true) : Calls Try.prog 3 #[.int .i64 s, .int .i64 e, .int .i64 t] w fun x w' => x = .returned (.bool true) ∧ Below w.heap.size w w' := by
  go_enter Try.func3, Try.ntmps3
  go_wp2_with fail
  go_loopw [7, 8] (fun v i wr => ∃ k : Nat, k ≤ 2 ∧ i = .int .i64 k ∧ (if k = 0 then v = .pointer none ∧ Below w.heap.size w wr else NoBk wr v ∧ Below w.heap.size w wr)) (fun _ i _ => 2 - (intOf i).toNat)
  case atStart => exact ⟨0, Nat.zero_le _, rfl, rfl, Below.refl _ _⟩
  case round =>
    obtain ⟨k, hk, rfl, hI⟩ := hrel
    obtain rfl | rfl | rfl : k = 0 ∨ k = 1 ∨ k = 2 := by omega
    · obtain ⟨rfl, hb⟩ := hI
      have HN : Hid (NoBk wr (.pointer none)) := Lib.hid (.inl rfl)
      go_wp2_with fail
      refine (holder_no s t HN.out).mono ?_
      rintro x w2 ⟨rfl, rfl⟩
      go_wp2_with fail
      refine (may_no s e t HN.out).mono ?_
      rintro x w2 ⟨rfl, rfl⟩
      go_wp2_with fail
      refine (grant_no s e t HN.out).mono ?_
      rintro x w2 ⟨rfl, rfl⟩
      go_wp2_with fail
      refine (release_no s e HN.out).mono ?_
      rintro x w2 ⟨rfl, rfl⟩
      go_wp2_with fail
      go_roundw
      case rel => exact ⟨1, by omega, rfl, .inr ⟨_, rfl, heap_alloc_new wr _⟩, hb.alloc hb.size _⟩
      case measure => simp [intOf]
    · obtain ⟨hn, hb⟩ := hI
      have HN : Hid (NoBk wr _) := Lib.hid hn
      clear hn
      go_wp2_with fail
      refine (holder_no s t HN.out).mono ?_
      rintro x w2 ⟨rfl, rfl⟩
      go_wp2_with fail
      refine (may_no s e t HN.out).mono ?_
      rintro x w2 ⟨rfl, rfl⟩
      go_wp2_with fail
      refine (grant_no s e t HN.out).mono ?_
      rintro x w2 ⟨rfl, rfl⟩
      go_wp2_with fail
      refine (release_no s e HN.out).mono ?_
      rintro x w2 ⟨rfl, rfl⟩
      go_wp2_with fail
      go_roundw
      case rel => exact ⟨2, by omega, rfl, .inr ⟨_, rfl, heap_alloc_new wr _⟩, hb.alloc hb.size _⟩
      case measure => simp [intOf]
    · obtain ⟨hn, hb⟩ := hI
      go_wp2_with fail
      refine (lives_any _).mono ?_
      rintro x w2 ⟨rfl, hb2⟩
      go_wp2_with fail
      go_ret
      exact ⟨rfl, hb.trans (hb2.mono hb.size)⟩
end leasesNoneW
end Go.Proofs.Ytopdjmjlnflhfaa
