/-
  The contracts of package leases: of a book that New made.
-/
import Derived.Test.YtopdjmjlnflhfaaBkMem
import Derived.Lib.MinMax
import Derived.Deep.DeepCutAuto
namespace Go.Proofs.Ytopdjmjlnflhfaa
open Go.RowKit Go.Sort Go.Maps
set_option maxRecDepth 100000 in
theorem end_any (now : Int) (h : -9223372036854775808 ≤ now) (w : World) : Calls Try.prog 13 #[.int .i64 now] w fun e w' => e = .returned (.int .i64 (Lea.over now)) ∧ w = w' := by
  have hv := Lea.over_in h
  have h1 : IntKind.i64.wrap (min now 1073741824 + 10) = min now 1073741824 + 10 := IntWalk.i64_in _ (by omega)
  have h2 : IntKind.i64.wrap (min now 1073741824 + 10 + 6) = min now 1073741824 + 10 + 6 := IntWalk.i64_in _ (by omega)
  have h3 : Lea.over now = min now 1073741824 + 10 + 6 := by unfold Lea.over; omega
  rw [h3]
  clear h3 hv
  go_enter Try.func13, Try.ntmps13
  go_wp2
  all_goals (go_ret; exact ⟨rfl, rfl⟩)
theorem map_nil_no (m : Nat) (w : World) : (binOp .eql 29 (.map (some m)) (.map none)).run Try.prog w = .ok (.bool false) w := by kernel_rfl
theorem map_nil_yes (w : World) : (binOp .eql 29 (.map none) (.map none)).run Try.prog w = .ok (.bool true) w := by kernel_rfl
section
variable {w : World} {p m n : Nat} {B : Lea.Bk} {s e now : Int}
set_option maxRecDepth 100000 in
theorem isNone_no (h : IsBk w p m n B) : Calls Try.prog 12 #[.pointer (some ⟨p, 0, none⟩)] w fun e w' => e = .returned (.bool false) ∧ w = w' := by
  have c1 := h.ptr
  have heq := map_nil_no m
  clear h
  go_enter Try.func12, Try.ntmps12
  go_wp2
  go_ret
  exact ⟨rfl, rfl⟩
/-- Holder: what is told; one variable more in memory. -/
def HoldPost (w : World) (r : Int × Bool) (e : Ending) (w' : World) : Prop := e = .returned (.tuple #[.int .i64 r.1, .bool r.2]) ∧ Below w.heap.size w w'
set_option maxRecDepth 100000 in
set_option maxHeartbeats 2000000 in
theorem holder_any (h : IsBk w p m n B) (hs : (Lit.int .i64 s).wf = true) : Calls Try.prog 6 #[.pointer (some ⟨p, 0, none⟩), .int .i64 s, .int .i64 now] w (HoldPost w (Lea.hold B s now)) := by
  have c1 := h.ptr
  have HN := Lib.hid (isNone_no h)
  cases hg : B.g s with
  | none =>
    have HL := Lib.hid (h.ok_none hs hg)
    have HE := Lib.hid (Lea.hold_none hg now)
    clear h hg hs
    go_enter Try.func6, Try.ntmps6
    go_wp2_with fail
    refine HN.out.mono ?_
    rintro e w1 ⟨rfl, rfl⟩
    go_wp2_with (first | (at_lookup; refine wpList_lookup_known rfl _ _ _ _ rfl _ _ _ rfl rfl HL.out ?_))
    go_ret2
    exact ⟨by rw [HE.out]; rfl, (Below.refl _ w).alloc (Nat.le_refl _) _⟩
  | some x =>
    obtain ⟨f, o⟩ := x
    have HL := Lib.hid (h.ok_some hs hg)
    have HE := Lib.hid (Lea.hold_some hg now)
    clear h hg hs
    by_cases hlt : now < o
    · rw [if_pos hlt] at HE
      go_enter Try.func6, Try.ntmps6
      go_wp2_with fail
      refine HN.out.mono ?_
      rintro e w1 ⟨rfl, rfl⟩
      go_wp2_with (first | (at_lookup; refine wpList_lookup_known rfl _ _ _ _ rfl _ _ _ rfl rfl HL.out ?_))
      go_ret2
      exact ⟨by rw [HE.out]; rfl, (Below.refl _ w).alloc (Nat.le_refl _) _⟩
    · rw [if_neg hlt] at HE
      go_enter Try.func6, Try.ntmps6
      go_wp2_with fail
      refine HN.out.mono ?_
      rintro e w1 ⟨rfl, rfl⟩
      go_wp2_with (first | (at_lookup; refine wpList_lookup_known rfl _ _ _ _ rfl _ _ _ rfl rfl HL.out ?_))
      go_ret2
      exact ⟨by rw [HE.out]; rfl, (Below.refl _ w).alloc (Nat.le_refl _) _⟩
set_option maxRecDepth 100000 in
set_option maxHeartbeats 2000000 in
theorem may_any (h : IsBk w p m n B) (hs : (Lit.int .i64 s).wf = true) : Calls Try.prog 7 #[.pointer (some ⟨p, 0, none⟩), .int .i64 s, .int .i64 e, .int .i64 now] w fun x w' => x = .returned (.bool (Lea.may B s e now)) ∧ Below w.heap.size w w' := by
  have c0 := h.grace
  have HN := Lib.hid (isNone_no h)
  have HH := Lib.hid (holder_any (now := now) h hs)
  obtain ⟨r, hr⟩ : ∃ r, Lea.may B s e now = r := ⟨_, rfl⟩
  rw [hr]
  unfold Lea.may at hr
  by_cases hlt : now < B.grace
  · rw [decide_eq_true hlt] at hr
    have HR : Hid (r = false) := Lib.hid hr.symm
    clear hr h hs HH
    generalize B.grace = g at *
    go_enter Try.func7, Try.ntmps7
    go_wp2_with fail
    refine HN.out.mono ?_
    rintro e w1 ⟨rfl, rfl⟩
    go_wp2_with fail
    go_ret
    exact ⟨by rw [HR.out]; rfl, Below.refl _ _⟩
  · rw [decide_eq_false hlt] at hr
    generalize Lea.hold B s now = q at *
    obtain ⟨k, b⟩ := q
    cases b with
    | false =>
      have HR : Hid (r = true) := Lib.hid hr.symm
      clear hr h hs
      generalize B.grace = g at *
      go_enter Try.func7, Try.ntmps7
      go_wp2_with fail
      refine HN.out.mono ?_
      rintro e w1 ⟨rfl, rfl⟩
      go_wp2_with fail
      refine HH.out.mono ?_
      rintro e w1 ⟨rfl, hb⟩
      go_wp2_with fail
      go_ret
      exact ⟨by rw [HR.out]; rfl, hb⟩
    | true =>
      obtain ⟨t, ht⟩ : ∃ t, (k == e) = t := ⟨_, rfl⟩
      have HR : Hid (r = t) := Lib.hid (by rw [← hr, ← ht]; rfl)
      clear hr h hs
      generalize B.grace = g at *
      cases t
      all_goals
        go_enter Try.func7, Try.ntmps7
        go_wp2_with fail
        refine HN.out.mono ?_
        rintro e w1 ⟨rfl, rfl⟩
        go_wp2_with fail
        refine HH.out.mono ?_
        rintro e w1 ⟨rfl, hb⟩
        go_wp2_with fail
        go_ret
        exact ⟨by rw [HR.out]; rfl, hb⟩
end
end Go.Proofs.Ytopdjmjlnflhfaa
