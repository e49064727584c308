/-
  What a disk that is none answers.
-/
import Derived.Test.YtceldekbkffhpaaDWorks
namespace Go.Proofs.Ytceldekbkffhpaa
open Go.RowKit
def NilRet (w : World) (e : Ending) (w' : World) : Prop := e = .returned (.int .i64 1) ∧ Below w.heap.size w w'
section
variable {w w' : World} {v : Value}
theorem NoneAt.below (h : NoneAt w v) (hb : Below w.heap.size w w') : NoneAt w' v := by
  rcases h with rfl | ⟨d, rfl, hc⟩
  · exact .inl rfl
  · exact .inr ⟨d, rfl, (hb.cell (p := ⟨d, 0, none⟩) (block_lt_of_cell hc)).trans hc⟩
theorem append_none (nm s : ByteArray) (h : NoneAt w v) : Calls Try.prog 22 #[v, .string nm, .string s] w (NilRet w) := by
  have HR := Lib.hid (ready_none v w h)
  clear h
  go_enter Try.func22, Try.ntmps22
  go_wp2_with fail
  refine HR.out.mono ?_
  rintro e w' ⟨rfl, rfl⟩
  go_wp2_with fail
  go_ret
  exact ⟨rfl, Below.refl _ _⟩
theorem crash_none (kv : Value) (h : NoneAt w v) : Calls Try.prog 24 #[v, kv] w (NilRet w) := by
  have HR := Lib.hid (ready_none v w h)
  clear h
  go_enter Try.func24, Try.ntmps24
  go_wp2_with fail
  refine HR.out.mono ?_
  rintro e w' ⟨rfl, rfl⟩
  go_wp2_with fail
  go_ret
  exact ⟨rfl, Below.refl _ _⟩
theorem start_none (h : NoneAt w v) : Calls Try.prog 25 #[v] w (NilRet w) := by
  have HR := Lib.hid (none_yes v w h)
  clear h
  go_enter Try.func25, Try.ntmps25
  go_wp2_with fail
  refine HR.out.mono ?_
  rintro e w' ⟨rfl, rfl⟩
  go_wp2_with fail
  go_ret
  exact ⟨rfl, Below.refl _ _⟩
theorem starts_none (h : NoneAt w v) : Calls Try.prog 21 #[v] w fun e w' => e = .returned (.int .i64 0) ∧ w = w' := by
  have HR := Lib.hid (none_yes v w h)
  clear h
  go_enter Try.func21, Try.ntmps21
  go_wp2_with fail
  refine HR.out.mono ?_
  rintro e w' ⟨rfl, rfl⟩
  go_wp2_with fail
  go_ret
  exact ⟨rfl, rfl⟩
theorem up_none (h : NoneAt w v) : Calls Try.prog 20 #[v] w fun e w' => e = .returned (.bool false) ∧ w = w' := by
  have HR := Lib.hid (ready_none v w h)
  clear h
  go_enter Try.func20, Try.ntmps20
  go_wp2_with fail
  refine HR.out.mono ?_
  rintro e w' ⟨rfl, rfl⟩
  go_wp2_with fail
  go_ret
  exact ⟨rfl, rfl⟩
theorem eachStr_none (fv : Value) (h : NoneAt w v) : Calls Try.prog 41 #[v, fv] w fun e w' => e = .returned (.slice none 0 0) ∧ w = w' := by
  have HR := Lib.hid (none_yes v w h)
  clear h
  go_enter Try.func41, Try.ntmps41
  go_wp2_with fail
  refine HR.out.mono ?_
  rintro e w' ⟨rfl, rfl⟩
  go_wp2_with fail
  go_ret
  exact ⟨rfl, rfl⟩
theorem eachInt_none (fv : Value) (h : NoneAt w v) : Calls Try.prog 43 #[v, fv] w fun e w' => e = .returned (.slice none 0 0) ∧ w = w' := by
  have HR := Lib.hid (none_yes v w h)
  clear h
  go_enter Try.func43, Try.ntmps43
  go_wp2_with fail
  refine HR.out.mono ?_
  rintro e w' ⟨rfl, rfl⟩
  go_wp2_with fail
  go_ret
  exact ⟨rfl, rfl⟩
theorem names_none (h : NoneAt w v) : Calls Try.prog 13 #[v] w fun e w' => e = .returned (.slice none 0 0) ∧ w = w' := by
  have HR := Lib.hid (fun fv => eachStr_none (v := v) (w := w) fv h)
  clear h
  go_enter Try.func13, Try.ntmps13
  go_wp2_with fail
  refine (HR.out _).mono ?_
  rintro e w' ⟨rfl, rfl⟩
  go_wp2_with fail
  go_ret
  exact ⟨rfl, rfl⟩
theorem unsync_none (h : NoneAt w v) : Calls Try.prog 14 #[v] w fun e w' => e = .returned (.slice none 0 0) ∧ w = w' := by
  have HR := Lib.hid (fun fv => eachInt_none (v := v) (w := w) fv h)
  clear h
  go_enter Try.func14, Try.ntmps14
  go_wp2_with fail
  refine (HR.out _).mono ?_
  rintro e w' ⟨rfl, rfl⟩
  go_wp2_with fail
  go_ret
  exact ⟨rfl, rfl⟩
theorem size_none (h : NoneAt w v) : Calls Try.prog 18 #[v] w fun e w' => e = .returned (.int .i64 0) ∧ w = w' := by
  have HR := Lib.hid (fun fv => eachInt_none (v := v) (w := w) fv h)
  clear h
  go_enter Try.func18, Try.ntmps18
  go_wp2_with fail
  refine (HR.out _).mono ?_
  rintro e w' ⟨rfl, rfl⟩
  go_wp2_with fail
  go_loopg [3, 9] 0 (fun _ s3 s9 wr => s3 = .int .i64 0 ∧ s9 = .int .i64 0 ∧ w = wr)
  case atStart => exact ⟨rfl, rfl, rfl⟩
  case round =>
    obtain ⟨rfl, rfl, rfl⟩ := hrel
    go_wp2
    go_ret
    exact ⟨rfl, rfl⟩
theorem sync_none (nm : ByteArray) (h : NoneAt w v) : Calls Try.prog 23 #[v, .string nm] w (NilRet w) := by
  have HN := Lib.hid (fun W (hb : Below w.heap.size w W) => h.below hb)
  rcases h with rfl | ⟨d, rfl, hc⟩
  all_goals
    go_enter Try.func23, Try.ntmps23
    go_wp2_with fail
    refine (ask_none _ _ (HN.out _ (below_alloc w _))).mono ?_
    rintro e w' ⟨rfl, rfl⟩
    go_wp2_with fail
    go_ret
    exact ⟨rfl, below_alloc w _⟩
theorem trunc_none (nm : ByteArray) (n : Int) (h : NoneAt w v) : Calls Try.prog 27 #[v, .string nm, .int .i64 n] w (NilRet w) := by
  have HN := Lib.hid (fun W (hb : Below w.heap.size w W) => h.below hb)
  rcases h with rfl | ⟨d, rfl, hc⟩
  all_goals
    go_enter Try.func27, Try.ntmps27
    go_wp2_with fail
    refine (ask_none _ _ (HN.out _ (two_new w _ _ _ _).2.2.1)).mono ?_
    rintro e w' ⟨rfl, rfl⟩
    go_wp2_with fail
    go_ret
    exact ⟨rfl, (two_new w _ _ _ _).2.2.1⟩
theorem rename_none (nm nw : ByteArray) (h : NoneAt w v) : Calls Try.prog 28 #[v, .string nm, .string nw] w (NilRet w) := by
  have HN := Lib.hid (fun W (hb : Below w.heap.size w W) => h.below hb)
  rcases h with rfl | ⟨d, rfl, hc⟩
  all_goals
    go_enter Try.func28, Try.ntmps28
    go_wp2_with fail
    refine (ask_none _ _ (HN.out _ (three_new w _ _ _ _ _ _).2.1)).mono ?_
    rintro e w' ⟨rfl, rfl⟩
    go_wp2_with fail
    go_ret
    exact ⟨rfl, (three_new w _ _ _ _ _ _).2.1⟩
theorem remove_none (nm : ByteArray) (h : NoneAt w v) : Calls Try.prog 29 #[v, .string nm] w (NilRet w) := by
  have HN := Lib.hid (fun W (hb : Below w.heap.size w W) => h.below hb)
  rcases h with rfl | ⟨d, rfl, hc⟩
  all_goals
    go_enter Try.func29, Try.ntmps29
    go_wp2_with fail
    refine (ask_none _ _ (HN.out _ (two_new w _ _ _ _).2.2.1)).mono ?_
    rintro e w' ⟨rfl, rfl⟩
    go_wp2_with fail
    go_ret
    exact ⟨rfl, (two_new w _ _ _ _).2.2.1⟩
theorem fail_none (n : Int) (kv : Value) (h : NoneAt w v) : Calls Try.prog 26 #[v, .int .i64 n, kv] w (NilRet w) := by
  have HN := Lib.hid (fun W (hb : Below w.heap.size w W) => h.below hb)
  rcases h with rfl | ⟨d, rfl, hc⟩
  all_goals
    go_enter Try.func26, Try.ntmps26
    go_wp2_with fail
    refine (ready_none _ _ (HN.out _ (below_alloc w _))).mono ?_
    rintro e w' ⟨rfl, rfl⟩
    go_wp2_with fail
    go_ret
    exact ⟨rfl, below_alloc w _⟩
theorem read_none (nm : ByteArray) (h : NoneAt w v) : Calls Try.prog 11 #[v, .string nm] w fun e w' => e = .returned (.tuple #[.string ⟨#[]⟩, .int .i64 1]) ∧ Below w.heap.size w w' := by
  have HN := Lib.hid (h.below (below_alloc w (.cells #[.string ⟨#[]⟩] 9)))
  have hnew := new_cell w (.string ⟨#[]⟩) 9
  clear h
  go_enter Try.func11, Try.ntmps11
  go_wp2_with fail
  refine (ask_none _ _ HN.out).mono ?_
  rintro e w' ⟨rfl, rfl⟩
  go_wp2_with fail
  go_ret2
  exact ⟨rfl, below_alloc w _⟩
end
end Go.Proofs.Ytceldekbkffhpaa
