/-
  Contracts of the small functions of package disk: none, ready, isName, unsynced; cmp.Compare.
-/
import Derived.Test.YtceldekbkffhpaaDFoot
import Derived.Deep.QuietTactic
import Derived.BigQuiet
namespace Go.Proofs.Ytceldekbkffhpaa
open Go.RowKit
theorem isNaN_any (x : ByteArray) (w : World) : Calls Try.prog 73 #[.string x] w fun e w' => e = .returned (.bool false) ∧ w = w' := by
  go_enter Try.func73, Try.ntmps73
  go_wp2
  go_ret
  exact ⟨by simp, rfl⟩
def cmpOf (x y : ByteArray) : Int := if Dsk.nlt x y then -1 else if x = y then 0 else 1
set_option maxHeartbeats 1000000 in
theorem compare_any (x y : ByteArray) (w : World) : Calls Try.prog 69 #[.string x, .string y] w fun e w' => e = .returned (.int .i64 (cmpOf x y)) ∧ w = w' := by
  cases hl : Op.bytesLess x.toList y.toList
  · by_cases he : x = y
    · subst he
      have t1 : (!(Op.bytesLess x.toList x.toList || x.toList == x.toList)) = false := by simp
      have HC : Hid (cmpOf x x = 0) := by unfold Hid cmpOf Dsk.nlt; rw [hl]; simp
      go_enter Try.func69, Try.ntmps69
      go_wp2_with (go_at_call 73; refine (isNaN_any _ _).mono ?_; rintro e w' ⟨rfl, rfl⟩)
      go_ret
      exact ⟨by rw [HC.out]; rfl, rfl⟩
    · have t0 : (x.toList == y.toList) = false := by
        rw [beq_eq_false_iff_ne]; exact fun e => he (Dsk.tl_inj e)
      have HC : Hid (cmpOf x y = 1) := by unfold Hid cmpOf Dsk.nlt; rw [hl, if_neg he]; simp
      clear he
      go_enter Try.func69, Try.ntmps69
      go_wp2_with (go_at_call 73; refine (isNaN_any _ _).mono ?_; rintro e w' ⟨rfl, rfl⟩)
      go_ret
      exact ⟨by rw [HC.out]; rfl, rfl⟩
  · have HC : Hid (cmpOf x y = -1) := by unfold Hid cmpOf Dsk.nlt; rw [hl]; simp
    go_enter Try.func69, Try.ntmps69
    go_wp2_with (go_at_call 73; refine (isNaN_any _ _).mono ?_; rintro e w' ⟨rfl, rfl⟩)
    go_ret
    exact ⟨by rw [HC.out]; rfl, rfl⟩
theorem isName_any (s : ByteArray) (w : World) : Calls Try.prog 48 #[.string s] w fun e w' => e = .returned (.bool (Dsk.isNm s)) ∧ w = w' := by
  by_cases h1 : 1 ≤ s.size
  · by_cases h2 : s.size ≤ 16
    · have HC : Hid (Dsk.isNm s = true) := by unfold Hid Dsk.isNm; simp [h1, h2]
      have t2 : decide ((s.size : Int) ≤ 16) = true := decide_eq_true (by omega)
      go_enter Try.func48, Try.ntmps48
      go_wp2
      go_ret
      exact ⟨by rw [HC.out]; rfl, rfl⟩
    · have HC : Hid (Dsk.isNm s = false) := by unfold Hid Dsk.isNm; simp [h1, h2]
      have t2 : decide ((s.size : Int) ≤ 16) = false := decide_eq_false (by omega)
      go_enter Try.func48, Try.ntmps48
      go_wp2
      go_ret
      exact ⟨by rw [HC.out]; rfl, rfl⟩
  · have HC : Hid (Dsk.isNm s = false) := by unfold Hid Dsk.isNm; simp [h1]
    have t2 : decide (1 ≤ (s.size : Int)) = false := decide_eq_false (by omega)
    go_enter Try.func48, Try.ntmps48
    go_wp2
    go_ret
    exact ⟨by rw [HC.out]; rfl, rfl⟩
/-! ### Of a disk that is none -/
def NoneAt (w : World) (v : Value) : Prop := v = .pointer none ∨ ∃ d, v = .pointer (some ⟨d, 0, none⟩) ∧ w.cell? ⟨d, 0, none⟩ = some (.int .i64 0)
theorem none_yes (v : Value) (w : World) (h : NoneAt w v) : Calls Try.prog 47 #[v] w fun e w' => e = .returned (.bool true) ∧ w = w' := by
  rcases h with rfl | ⟨d, rfl, hc⟩
  · go_enter Try.func47, Try.ntmps47
    go_wp2
    go_ret
    exact ⟨rfl, rfl⟩
  · go_enter Try.func47, Try.ntmps47
    go_wp2
    go_ret
    exact ⟨rfl, rfl⟩
theorem none_no (d cap : Nat) (w : World) (h : w.cell? ⟨d, 0, none⟩ = some (.int .i64 (cap : Int))) (h0 : 0 < cap) : Calls Try.prog 47 #[.pointer (some ⟨d, 0, none⟩)] w fun e w' => e = .returned (.bool false) ∧ w = w' := by
  have t1 : ((cap : Int) == 0) = false := beq_eq_false_iff_ne.2 (by omega)
  go_enter Try.func47, Try.ntmps47
  go_wp2
  go_ret
  exact ⟨rfl, rfl⟩
theorem ready_none (v : Value) (w : World) (h : NoneAt w v) : Calls Try.prog 46 #[v] w fun e w' => e = .returned (.int .i64 1) ∧ w = w' := by
  go_enter Try.func46, Try.ntmps46
  go_wp2_with fail
  refine (none_yes _ _ h).mono ?_
  rintro e w' ⟨rfl, rfl⟩
  go_wp2_with fail
  go_ret
  exact ⟨rfl, rfl⟩
def readyR (down : Bool) : Int := if down then 41 else 0
theorem ready_any {d cap : Nat} {v : Value} {down : Bool} {starts : Nat} {left : Int} {fv : Value} (w : World) (h : Head w d cap v down starts left fv) (h0 : 0 < cap) :
    Calls Try.prog 46 #[.pointer (some ⟨d, 0, none⟩)] w fun e w' => e = .returned (.int .i64 (readyR down)) ∧ w = w' := by
  obtain ⟨c0, c1, c2, c3, c4, c5, hf⟩ := h.cells
  have HN := Lib.hid (none_no d cap w c0 h0)
  clear hf
  cases down
  · go_enter Try.func46, Try.ntmps46
    go_wp2_with fail
    refine HN.out.mono ?_
    rintro e w' ⟨rfl, rfl⟩
    go_wp2_with fail
    go_ret
    exact ⟨rfl, rfl⟩
  · go_enter Try.func46, Try.ntmps46
    go_wp2_with fail
    refine HN.out.mono ?_
    rintro e w' ⟨rfl, rfl⟩
    go_wp2_with fail
    go_ret
    exact ⟨rfl, rfl⟩
/-- 'unsynced' of the file at an address. -/
theorem unsynced_any (g o : Nat) (n c : Nat) (A : Option Addr) (sure : Nat) (w : World) (h1 : w.cell? ⟨g, o + 1, none⟩ = some (.slice A n c)) (h2 : w.cell? ⟨g, o + 2, none⟩ = some (.int .i64 (sure : Int))) (hs : sure ≤ n) (hn : n ≤ maxLen) :
    Calls Try.prog 44 #[.pointer (some ⟨g, o, none⟩)] w fun e w' => e = .returned (.int .i64 ((n - sure : Nat) : Int)) ∧ w' = w.drew := by
  unfold maxLen at hn
  have hsum : IntKind.i64.wrap ((n : Int) - (sure : Int)) = ((n - sure : Nat) : Int) := by rw [IntWalk.i64_in _ (by omega)]; omega
  go_enter Try.func44, Try.ntmps44
  go_wp2
  go_region
  all_goals
    go_wp2
    go_ret
    exact ⟨rfl, rfl⟩
end Go.Proofs.Ytceldekbkffhpaa
