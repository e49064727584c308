/-
  Decode of the document's orders.
-/
import Derived.Test.YtncbjekmkihilaaDoorOTake
namespace Go.Proofs.YtncbjekmkihilaaDoor
open Go.RowKit Go.Sort
theorem take_cases (l : List UInt8) : (takeR l 0 = .tuple #[.agg #[.int .i64 0, .int .i64 0, .int .i64 0, .int .i64 0, .int .i64 0], .int .i64 0, .bool false] ∧ decO l = none) ∨
    (∃ (o : Od) (k : Nat), takeR l 0 = .tuple #[o.v, .int .i64 k, .bool true] ∧ k ≠ l.length ∧ decO l = none) ∨
    ∃ o : Od, takeR l 0 = .tuple #[o.v, .int .i64 l.length, .bool true] ∧ decO l = if o.may then some o else none := by
  unfold takeR decO
  rcases hg : gots 5 l 0 with _ | ⟨ns, k⟩
  · exact .inl ⟨rfl, rfl⟩
  · obtain ⟨j, rfl⟩ : ∃ j : Nat, k = j := gots_nat (a := 0) hg
    by_cases hk : (j : Int) = l.length
    · refine .inr (.inr ⟨odOf ns, ?_, ?_⟩)
      · rw [hk]
      · simp only [hk, true_and]
    · exact .inr (.inl ⟨odOf ns, j, rfl, by omega, by simp only [hk, false_and, if_false]⟩)
set_option maxRecDepth 100000 in
set_option maxHeartbeats 4000000 in
theorem rdecode_any (s : ByteArray) (w : World) (hs : s.size ≤ maxLen) : Calls Tryd.prog 15 #[.string s] w (NumPost (decR (bytesOf s)) w) := by
  have HG := Lib.hid (fun X => take_any s 0 X hs)
  have HL := bytes_len s
  have HD : Hid (decR (bytesOf s) = match decO (bytesOf s) with | .none => .tuple #[Od.none.v, .int .i64 30] | some o => .tuple #[o.v, .int .i64 0]) := rfl
  generalize decR (bytesOf s) = R at *
  unfold maxLen at hs
  have hb0 : Below w.heap.size w w := Below.refl _ _
  have B0 := Box5.new w (.int .i64 0) (.int .i64 0) (.int .i64 0) (.int .i64 0) (.int .i64 0) 23
  have hbA : Below w.heap.size w (w.alloc (.cells #[.int .i64 0, .int .i64 0, .int .i64 0, .int .i64 0, .int .i64 0] 23)) := hb0.alloc (Nat.le_refl _) _
  rcases take_cases (bytesOf s) with ⟨h1, h2⟩ | ⟨o, k, h1, h3, h2⟩ | ⟨o, h1, h2⟩
  · rw [h1] at HG; rw [h2] at HD
    have HD' := Lib.hid (HD.out.trans rfl)
    clear h1 h2 HD
    go_enter Tryd.func15, Tryd.ntmps15
    go_wp2_with fail
    refine (HG.out _).mono ?_
    rintro e w1 ⟨rfl, hb1⟩
    have B1 := B0.later hb1
    have hbz := hbA.trans (hb1.mono hbA.size)
    clear hb1
    obtain ⟨x0, x1, x2, x3, x4, xf, xs⟩ := id B1
    go_wp2_with fail
    (try simp only [Exit.inBlock, Exit.then]); refine bodyPost_ret (v := .tuple #[.agg #[.int .i64 0, .int .i64 0, .int .i64 0, .int .i64 0, .int .i64 0], .int .i64 30]) (by rw [results_cell_tmp rfl]; go_simp) rfl ?_
    exact ⟨HD'.out.symm ▸ rfl, by repeat' (first | (with_reducible exact hbz) | (with_reducible refine below_drewN ?_ _) | (with_reducible refine Below.alloc ?_ ?_ _) | (with_reducible refine Below.setCell ?_ ?_ _) | go_size)⟩
  · rw [h1] at HG; rw [h2] at HD
    have HD' := Lib.hid (HD.out.trans rfl)
    have t : decide ((k : Int) = (s.size : Int)) = false := decide_eq_false (by omega)
    obtain ⟨a, b, c, d, f⟩ := o
    simp only [Od.v] at *
    clear h1 h2 HD
    go_enter Tryd.func15, Tryd.ntmps15
    go_wp2_with fail
    refine (HG.out _).mono ?_
    rintro e w1 ⟨rfl, hb1⟩
    have B1 := B0.later hb1
    have hbz := hbA.trans (hb1.mono hbA.size)
    clear hb1
    obtain ⟨x0, x1, x2, x3, x4, xf, xs⟩ := id B1
    go_wp2_with fail
    (try simp only [Exit.inBlock, Exit.then]); refine bodyPost_ret (v := .tuple #[.agg #[.int .i64 0, .int .i64 0, .int .i64 0, .int .i64 0, .int .i64 0], .int .i64 30]) (by rw [results_cell_tmp rfl]; go_simp) rfl ?_
    exact ⟨HD'.out.symm ▸ rfl, by repeat' (first | (with_reducible exact hbz) | (with_reducible refine below_drewN ?_ _) | (with_reducible refine Below.alloc ?_ ?_ _) | (with_reducible refine Below.setCell ?_ ?_ _) | go_size)⟩
  · rw [h1, HL] at HG; rw [h2] at HD
    have HM := Lib.hid (fun X => rmay_any o X)
    clear h1 h2
    generalize o.may = my at *
    obtain ⟨a, b, c, d, f⟩ := o
    simp only [Od.v] at *
    cases my
    · have HD' := Lib.hid (HD.out.trans rfl)
      clear HD
      go_enter Tryd.func15, Tryd.ntmps15
      go_wp2_with fail
      refine (HG.out _).mono ?_
      rintro e w1 ⟨rfl, hb1⟩
      have B1 := B0.later hb1
      have hbz := hbA.trans (hb1.mono hbA.size)
      clear hb1
      obtain ⟨x0, x1, x2, x3, x4, xf, xs⟩ := id B1
      go_wp2_with fail
      have D1 := Box5.new w1 (.int .i64 a) (.int .i64 b) (.int .i64 c) (.int .i64 d) (.int .i64 f) 23
      have hby := hbz.alloc hbz.size (.cells #[.int .i64 a, .int .i64 b, .int .i64 c, .int .i64 d, .int .i64 f] 23)
      refine (HM.out _).mono ?_
      rintro e w2 ⟨rfl, hb2⟩
      clear x0 x1 x2 x3 x4 xf xs
      obtain ⟨x0, x1, x2, x3, x4, xf, xs⟩ := (B1.alloc _).later hb2
      obtain ⟨y0, y1, y2, y3, y4, yf, ys⟩ := D1.later hb2
      have hbz := hby.trans (hb2.mono hby.size)
      clear hb2 hby
      go_wp2_with fail
      (try simp only [Exit.inBlock, Exit.then]); refine bodyPost_ret (v := .tuple #[.agg #[.int .i64 0, .int .i64 0, .int .i64 0, .int .i64 0, .int .i64 0], .int .i64 30]) (by rw [results_cell_tmp rfl]; go_simp) rfl ?_
      exact ⟨HD'.out.symm ▸ rfl, by repeat' (first | (with_reducible exact hbz) | (with_reducible refine below_drewN ?_ _) | (with_reducible refine Below.alloc ?_ ?_ _) | (with_reducible refine Below.setCell ?_ ?_ _) | go_size)⟩
    · have HD' := Lib.hid (HD.out.trans rfl)
      clear HD
      go_enter Tryd.func15, Tryd.ntmps15
      go_wp2_with fail
      refine (HG.out _).mono ?_
      rintro e w1 ⟨rfl, hb1⟩
      have B1 := B0.later hb1
      have hbz := hbA.trans (hb1.mono hbA.size)
      clear hb1
      obtain ⟨x0, x1, x2, x3, x4, xf, xs⟩ := id B1
      go_wp2_with fail
      have D1 := Box5.new w1 (.int .i64 a) (.int .i64 b) (.int .i64 c) (.int .i64 d) (.int .i64 f) 23
      have hby := hbz.alloc hbz.size (.cells #[.int .i64 a, .int .i64 b, .int .i64 c, .int .i64 d, .int .i64 f] 23)
      refine (HM.out _).mono ?_
      rintro e w2 ⟨rfl, hb2⟩
      clear x0 x1 x2 x3 x4 xf xs
      obtain ⟨x0, x1, x2, x3, x4, xf, xs⟩ := (B1.alloc _).later hb2
      obtain ⟨y0, y1, y2, y3, y4, yf, ys⟩ := D1.later hb2
      have hbz := hby.trans (hb2.mono hby.size)
      clear hb2 hby
      go_wp2_with fail
      (try simp only [Exit.inBlock, Exit.then]); refine bodyPost_ret (v := .tuple #[.agg #[.int .i64 a, .int .i64 b, .int .i64 c, .int .i64 d, .int .i64 f], .int .i64 0]) (by rw [results_cell_tmp rfl]; go_simp) rfl ?_
      exact ⟨HD'.out.symm ▸ rfl, by repeat' (first | (with_reducible exact hbz) | (with_reducible refine below_drewN ?_ _) | (with_reducible refine Below.alloc ?_ ?_ _) | (with_reducible refine Below.setCell ?_ ?_ _) | go_size)⟩
end Go.Proofs.YtncbjekmkihilaaDoor
