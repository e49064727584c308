/-
  The contract of pass: a change passes, or the failure that is set comes by it. And disks as they stand in memory.
-/
import Derived.Test.YtceldekbkffhpaaDDown
namespace Go.Proofs.Ytceldekbkffhpaa
open Go.RowKit
/-- The failure of a disk: none; or so many changes ahead of it, and what it keeps. T: the blocks that it reads. -/
def FailIs (w : World) (d : Nat) (T : Nat → Prop) (left : Int) (fv : Value) : Option (Nat × List Int) → Prop
  | none => fv = .nilFunc
  | some (n, keep) => left = (n : Int) ∧ (n : Int) ≤ 9223372036854775807 ∧ ∃ c1 c2 kv, fv = .func (.func 56) #[] #[.pointer (some ⟨c1, 0, none⟩), .pointer (some ⟨c2, 0, none⟩)] ∧
      w.heap[c1]? = some (.cells #[.pointer (some ⟨d, 0, none⟩)] 24 (0, 0)) ∧ w.heap[c2]? = some (.cells #[kv] 32 (0, 0)) ∧ Ints w kv keep ∧ T c1 ∧ T c2 ∧ ∀ k, kv.ownBlock = some k → T k
theorem FailIs.foot {S T : Nat → Prop} {w w' : World} {d : Nat} {left : Int} {fv : Value} {F : Option (Nat × List Int)} (h : FailIs w d T left fv F) (hf : Foot S w w') (hn : ∀ k, T k → ¬ S k) : FailIs w' d T left fv F := by
  cases F with
  | none => exact h
  | some p =>
    obtain ⟨h1, h2, c1, c2, kv, h3, h4, h5, h6, h7, h8, h9⟩ := h
    exact ⟨h1, h2, c1, c2, kv, h3, hf.kept h4 (hn c1 h7), hf.kept h5 (hn c2 h8), h6.foot hf fun k hk => hn k (h9 k hk), h7, h8, h9⟩
def DownedPost (w : World) (d cap : Nat) (v : Value) (starts : Nat) (left : Int) (fs' : List MF) (e : Ending) (w' : World) : Prop :=
  e = .returned (.int .i64 41) ∧ Head w' d cap v true starts left .nilFunc ∧ Files w' d v fs' ∧ Foot (fun k => k = d ∨ v.ownBlock = some k) w w'
theorem fn_nil (w : World) : (binOp .eql 1 .nilFunc .nilFunc).run Try.prog w = .ok (.bool true) w := by kernel_rfl
theorem fn_some (g : Nat) (cb : Array Value) (w : World) : (binOp .eql 1 (.func (.func g) #[] cb) .nilFunc).run Try.prog w = .ok (.bool false) w := by kernel_rfl
section
variable {d cap : Nat} {v : Value} {down : Bool} {starts : Nat} {left : Int} {fv : Value} {fs : List MF} {w : World}
set_option maxRecDepth 100000 in
theorem pass_none (hh : Head w d cap v down starts left .nilFunc) : Calls Try.prog 52 #[.pointer (some ⟨d, 0, none⟩)] w fun e w' => e = .returned (.int .i64 0) ∧ w = w' := by
  obtain ⟨c0, c1, c2, c3, c4, c5, hz⟩ := hh.cells
  clear hh c0 c1 c2 c3 c4 hz
  have hq := fn_nil
  go_enter Try.func52, Try.ntmps52
  go_wp2
  go_ret
  exact ⟨rfl, rfl⟩
set_option maxRecDepth 100000 in
theorem pass_more {n : Nat} {g : Nat} {cb : Array Value} (hh : Head w d cap v down starts ((n + 1 : Nat) : Int) (.func (.func g) #[] cb)) (hn : ((n + 1 : Nat) : Int) ≤ 9223372036854775807) :
    Calls Try.prog 52 #[.pointer (some ⟨d, 0, none⟩)] w fun e w' => e = .returned (.int .i64 0) ∧ Head w' d cap v down starts (n : Int) (.func (.func g) #[] cb) ∧ Foot (fun k => k = d) w w' := by
  have HH := Lib.hid hh
  obtain ⟨c0, c1, c2, c3, c4, c5, hz⟩ := hh.cells
  have z4 := hz 4
  clear hh c0 c1 c2 c3 hz
  have e1 : ((n + 1 : Nat) : Int) - 1 = (n : Int) := by omega
  have hq := fn_some
  have t1 : decide ((0 : Int) < ((n + 1 : Nat) : Int)) = true := decide_eq_true (by omega)
  go_enter Try.func52, Try.ntmps52
  go_wp2
  go_ret
  exact ⟨rfl, HH.out.set4 n, Foot.set _ _ _ _ rfl⟩
theorem failing_any {c1 c2 : Nat} {kv : Value} {keep : List Int} (hh : Head w d cap v down starts left fv) (h : Files w d v fs) (hl : fs.length ≤ 1000)
    (h1 : w.heap[c1]? = some (.cells #[.pointer (some ⟨d, 0, none⟩)] 24 (0, 0))) (h2 : w.heap[c2]? = some (.cells #[kv] 32 (0, 0))) (hk : Ints w kv keep) (hko : ∀ k, kv.ownBlock = some k → k ≠ d ∧ v.ownBlock ≠ some k) :
    Calls Try.prog 56 #[.pointer (some ⟨c1, 0, none⟩), .pointer (some ⟨c2, 0, none⟩)] w (DownPost w d cap v starts left (crashedM keep fs)) := by
  have q1 := cell_of_one h1
  have q2 := cell_of_one h2
  have HG := Lib.hid (goDown_any kv keep w hh h hl hk fun k _ e => hko k e)
  clear h1 h2 hh h hk hko
  go_enter Try.func56, Try.ntmps56
  go_wp2_with fail
  refine HG.out.mono ?_
  rintro e w' ⟨rfl, h⟩
  have H := Lib.hid h
  clear h
  go_wp2_with fail
  go_end0
  exact ⟨rfl, H.out⟩
set_option maxRecDepth 100000 in
theorem pass_down {c1 c2 : Nat} {kv : Value} {keep : List Int} (hh : Head w d cap v down starts 0 (.func (.func 56) #[] #[.pointer (some ⟨c1, 0, none⟩), .pointer (some ⟨c2, 0, none⟩)])) (h : Files w d v fs) (hl : fs.length ≤ 1000)
    (h1 : w.heap[c1]? = some (.cells #[.pointer (some ⟨d, 0, none⟩)] 24 (0, 0))) (h2 : w.heap[c2]? = some (.cells #[kv] 32 (0, 0))) (hk : Ints w kv keep) (hko : ∀ k, kv.ownBlock = some k → k ≠ d ∧ v.ownBlock ≠ some k) :
    Calls Try.prog 52 #[.pointer (some ⟨d, 0, none⟩)] w (DownedPost w d cap v starts 0 (crashedM keep fs)) := by
  have HG := Lib.hid (failing_any hh h hl h1 h2 hk hko)
  obtain ⟨k0, k1, k2, k3, k4, k5, hz⟩ := hh.cells
  have hq := fn_some
  clear h1 h2 hh h hk hko k0 k1 k2 k3 hz
  go_enter Try.func52, Try.ntmps52
  go_wp2_with fail
  refine HG.out.mono ?_
  rintro e w' ⟨rfl, h⟩
  have H := Lib.hid h
  clear h
  go_wp2_with fail
  go_ret
  exact ⟨rfl, H.out⟩
end
end Go.Proofs.Ytceldekbkffhpaa
