/-
  Take and Decode of the document's orders.
-/
import Derived.Test.YtncbjekmkihilaaDoorODec
namespace Go.Proofs.YtncbjekmkihilaaDoor
open Go.RowKit Go.Sort
/-- What Take tells of a text, at a place. -/
def takeR (l : List UInt8) (a : Int) : Value := match gots 5 l a with
  | .none => .tuple #[Od.none.v, .int .i64 0, .bool false]
  | some (ns, k) => .tuple #[(odOf ns).v, .int .i64 k, .bool true]
set_option maxRecDepth 100000 in
set_option maxHeartbeats 4000000 in
theorem take_any (s : ByteArray) (a : Int) (w : World) (hs : s.size ≤ maxLen) : Calls Tryd.prog 23 #[.string s, .int .i64 a] w (NumPost (takeR (bytesOf s) a) w) := by
  have HG := Lib.hid (fun (a : Int) X => rget_any s a X hs)
  obtain ⟨R, hR⟩ : ∃ R, takeR (bytesOf s) a = R := ⟨_, rfl⟩
  rw [hR]
  have HR := Lib.hid hR
  clear hR
  have hbz : Below w.heap.size w w := Below.refl _ _
  go_enter Tryd.func23, Tryd.ntmps23
  go_wp2_with fail
  refine wp_loop_rounds 6 ?_
  rw [rounds_succ]
  go_wp2_with fail
  refine (HG.out a _).mono ?_
  rintro e u0 ⟨hb, he⟩
  have B0 : Box5 u0 w.heap.size (.int .i64 0) (.int .i64 0) (.int .i64 0) (.int .i64 0) (.int .i64 0) := Box5.later ⟨by go_simp, by go_simp, by go_simp, by go_simp, by go_simp, fun i => by go_simp, by go_size⟩ hb
  have L0 : Box5 u0 (w.heap.size + 1) (.int .i64 0) (.int .i64 0) (.int .i64 0) (.int .i64 0) (.int .i64 0) := Box5.later ⟨by go_simp, by go_simp, by go_simp, by go_simp, by go_simp, fun i => by go_simp, by go_size⟩ hb
  have hbz : Below w.heap.size w u0 := Below.trans (by repeat' (first | (with_reducible exact hbz) | (with_reducible refine below_drewN ?_ _) | (with_reducible refine Below.alloc ?_ ?_ _) | (with_reducible refine Below.setCell ?_ ?_ _) | go_size)) (hb.mono (by go_size))
  clear hb
  obtain ⟨xs0, xs1, xs2, xs3, xs4, xf, xs⟩ := id B0
  obtain ⟨ys0, ys1, ys2, ys3, ys4, yf, ys⟩ := id L0
  rcases hg0 : got (bytesOf s) a with _ | ⟨n0, k0⟩
  · rw [hg0] at he; simp only [getR] at he; subst he; have H0 := Lib.hid hg0; clear hg0
    go_wp2_with fail
    (try simp only [Exit.inBlock, Exit.then]); refine bodyPost_ret (v := .tuple #[.agg #[.int .i64 0, .int .i64 0, .int .i64 0, .int .i64 0, .int .i64 0], .int .i64 0, .bool false]) (by rw [results_cell_tmp2 rfl]; go_simp) rfl ?_
    exact ⟨by rw [← HR.out]; simp [takeR, gots, Od.none, Od.v, H0.out], by repeat' (first | (with_reducible exact hbz) | (with_reducible refine below_drewN ?_ _) | (with_reducible refine Below.alloc ?_ ?_ _) | (with_reducible refine Below.setCell ?_ ?_ _) | go_size)⟩
  rw [hg0] at he; simp only [getR] at he; subst he; have H0 := Lib.hid hg0; clear hg0
  go_wp2_with fail
  rw [rounds_succ]
  go_wp2_with fail
  refine (HG.out (k0 : Nat) _).mono ?_
  rintro e u1 ⟨hb, he⟩
  have B1 : Box5 u1 w.heap.size (.int .i64 0) (.int .i64 0) (.int .i64 0) (.int .i64 0) (.int .i64 0) := Box5.later ⟨by go_simp, by go_simp, by go_simp, by go_simp, by go_simp, fun i => by go_simp, by go_size⟩ hb
  have L1 : Box5 u1 (w.heap.size + 1) (.int .i64 n0) (.int .i64 0) (.int .i64 0) (.int .i64 0) (.int .i64 0) := Box5.later ⟨by go_simp, by go_simp, by go_simp, by go_simp, by go_simp, fun i => by go_simp, by go_size⟩ hb
  have hbz : Below w.heap.size w u1 := Below.trans (by repeat' (first | (with_reducible exact hbz) | (with_reducible refine below_drewN ?_ _) | (with_reducible refine Below.alloc ?_ ?_ _) | (with_reducible refine Below.setCell ?_ ?_ _) | go_size)) (hb.mono (by go_size))
  clear xs0 xs1 xs2 xs3 xs4 xf xs ys0 ys1 ys2 ys3 ys4 yf ys
  clear hb
  obtain ⟨xs0, xs1, xs2, xs3, xs4, xf, xs⟩ := id B1
  obtain ⟨ys0, ys1, ys2, ys3, ys4, yf, ys⟩ := id L1
  rcases hg1 : got (bytesOf s) (k0 : Nat) with _ | ⟨n1, k1⟩
  · rw [hg1] at he; simp only [getR] at he; subst he; have H1 := Lib.hid hg1; clear hg1
    go_wp2_with fail
    (try simp only [Exit.inBlock, Exit.then]); refine bodyPost_ret (v := .tuple #[.agg #[.int .i64 0, .int .i64 0, .int .i64 0, .int .i64 0, .int .i64 0], .int .i64 0, .bool false]) (by rw [results_cell_tmp2 rfl]; go_simp) rfl ?_
    exact ⟨by rw [← HR.out]; simp [takeR, gots, Od.none, Od.v, H0.out, H1.out], by repeat' (first | (with_reducible exact hbz) | (with_reducible refine below_drewN ?_ _) | (with_reducible refine Below.alloc ?_ ?_ _) | (with_reducible refine Below.setCell ?_ ?_ _) | go_size)⟩
  rw [hg1] at he; simp only [getR] at he; subst he; have H1 := Lib.hid hg1; clear hg1
  go_wp2_with fail
  rw [rounds_succ]
  go_wp2_with fail
  refine (HG.out (k1 : Nat) _).mono ?_
  rintro e u2 ⟨hb, he⟩
  have B2 : Box5 u2 w.heap.size (.int .i64 0) (.int .i64 0) (.int .i64 0) (.int .i64 0) (.int .i64 0) := Box5.later ⟨by go_simp, by go_simp, by go_simp, by go_simp, by go_simp, fun i => by go_simp, by go_size⟩ hb
  have L2 : Box5 u2 (w.heap.size + 1) (.int .i64 n0) (.int .i64 n1) (.int .i64 0) (.int .i64 0) (.int .i64 0) := Box5.later ⟨by go_simp, by go_simp, by go_simp, by go_simp, by go_simp, fun i => by go_simp, by go_size⟩ hb
  have hbz : Below w.heap.size w u2 := Below.trans (by repeat' (first | (with_reducible exact hbz) | (with_reducible refine below_drewN ?_ _) | (with_reducible refine Below.alloc ?_ ?_ _) | (with_reducible refine Below.setCell ?_ ?_ _) | go_size)) (hb.mono (by go_size))
  clear xs0 xs1 xs2 xs3 xs4 xf xs ys0 ys1 ys2 ys3 ys4 yf ys
  clear hb
  obtain ⟨xs0, xs1, xs2, xs3, xs4, xf, xs⟩ := id B2
  obtain ⟨ys0, ys1, ys2, ys3, ys4, yf, ys⟩ := id L2
  rcases hg2 : got (bytesOf s) (k1 : Nat) with _ | ⟨n2, k2⟩
  · rw [hg2] at he; simp only [getR] at he; subst he; have H2 := Lib.hid hg2; clear hg2
    go_wp2_with fail
    (try simp only [Exit.inBlock, Exit.then]); refine bodyPost_ret (v := .tuple #[.agg #[.int .i64 0, .int .i64 0, .int .i64 0, .int .i64 0, .int .i64 0], .int .i64 0, .bool false]) (by rw [results_cell_tmp2 rfl]; go_simp) rfl ?_
    exact ⟨by rw [← HR.out]; simp [takeR, gots, Od.none, Od.v, H0.out, H1.out, H2.out], by repeat' (first | (with_reducible exact hbz) | (with_reducible refine below_drewN ?_ _) | (with_reducible refine Below.alloc ?_ ?_ _) | (with_reducible refine Below.setCell ?_ ?_ _) | go_size)⟩
  rw [hg2] at he; simp only [getR] at he; subst he; have H2 := Lib.hid hg2; clear hg2
  go_wp2_with fail
  rw [rounds_succ]
  go_wp2_with fail
  refine (HG.out (k2 : Nat) _).mono ?_
  rintro e u3 ⟨hb, he⟩
  have B3 : Box5 u3 w.heap.size (.int .i64 0) (.int .i64 0) (.int .i64 0) (.int .i64 0) (.int .i64 0) := Box5.later ⟨by go_simp, by go_simp, by go_simp, by go_simp, by go_simp, fun i => by go_simp, by go_size⟩ hb
  have L3 : Box5 u3 (w.heap.size + 1) (.int .i64 n0) (.int .i64 n1) (.int .i64 n2) (.int .i64 0) (.int .i64 0) := Box5.later ⟨by go_simp, by go_simp, by go_simp, by go_simp, by go_simp, fun i => by go_simp, by go_size⟩ hb
  have hbz : Below w.heap.size w u3 := Below.trans (by repeat' (first | (with_reducible exact hbz) | (with_reducible refine below_drewN ?_ _) | (with_reducible refine Below.alloc ?_ ?_ _) | (with_reducible refine Below.setCell ?_ ?_ _) | go_size)) (hb.mono (by go_size))
  clear xs0 xs1 xs2 xs3 xs4 xf xs ys0 ys1 ys2 ys3 ys4 yf ys
  clear hb
  obtain ⟨xs0, xs1, xs2, xs3, xs4, xf, xs⟩ := id B3
  obtain ⟨ys0, ys1, ys2, ys3, ys4, yf, ys⟩ := id L3
  rcases hg3 : got (bytesOf s) (k2 : Nat) with _ | ⟨n3, k3⟩
  · rw [hg3] at he; simp only [getR] at he; subst he; have H3 := Lib.hid hg3; clear hg3
    go_wp2_with fail
    (try simp only [Exit.inBlock, Exit.then]); refine bodyPost_ret (v := .tuple #[.agg #[.int .i64 0, .int .i64 0, .int .i64 0, .int .i64 0, .int .i64 0], .int .i64 0, .bool false]) (by rw [results_cell_tmp2 rfl]; go_simp) rfl ?_
    exact ⟨by rw [← HR.out]; simp [takeR, gots, Od.none, Od.v, H0.out, H1.out, H2.out, H3.out], by repeat' (first | (with_reducible exact hbz) | (with_reducible refine below_drewN ?_ _) | (with_reducible refine Below.alloc ?_ ?_ _) | (with_reducible refine Below.setCell ?_ ?_ _) | go_size)⟩
  rw [hg3] at he; simp only [getR] at he; subst he; have H3 := Lib.hid hg3; clear hg3
  go_wp2_with fail
  rw [rounds_succ]
  go_wp2_with fail
  refine (HG.out (k3 : Nat) _).mono ?_
  rintro e u4 ⟨hb, he⟩
  have B4 : Box5 u4 w.heap.size (.int .i64 0) (.int .i64 0) (.int .i64 0) (.int .i64 0) (.int .i64 0) := Box5.later ⟨by go_simp, by go_simp, by go_simp, by go_simp, by go_simp, fun i => by go_simp, by go_size⟩ hb
  have L4 : Box5 u4 (w.heap.size + 1) (.int .i64 n0) (.int .i64 n1) (.int .i64 n2) (.int .i64 n3) (.int .i64 0) := Box5.later ⟨by go_simp, by go_simp, by go_simp, by go_simp, by go_simp, fun i => by go_simp, by go_size⟩ hb
  have hbz : Below w.heap.size w u4 := Below.trans (by repeat' (first | (with_reducible exact hbz) | (with_reducible refine below_drewN ?_ _) | (with_reducible refine Below.alloc ?_ ?_ _) | (with_reducible refine Below.setCell ?_ ?_ _) | go_size)) (hb.mono (by go_size))
  clear xs0 xs1 xs2 xs3 xs4 xf xs ys0 ys1 ys2 ys3 ys4 yf ys
  clear hb
  obtain ⟨xs0, xs1, xs2, xs3, xs4, xf, xs⟩ := id B4
  obtain ⟨ys0, ys1, ys2, ys3, ys4, yf, ys⟩ := id L4
  rcases hg4 : got (bytesOf s) (k3 : Nat) with _ | ⟨n4, k4⟩
  · rw [hg4] at he; simp only [getR] at he; subst he; have H4 := Lib.hid hg4; clear hg4
    go_wp2_with fail
    (try simp only [Exit.inBlock, Exit.then]); refine bodyPost_ret (v := .tuple #[.agg #[.int .i64 0, .int .i64 0, .int .i64 0, .int .i64 0, .int .i64 0], .int .i64 0, .bool false]) (by rw [results_cell_tmp2 rfl]; go_simp) rfl ?_
    exact ⟨by rw [← HR.out]; simp [takeR, gots, Od.none, Od.v, H0.out, H1.out, H2.out, H3.out, H4.out], by repeat' (first | (with_reducible exact hbz) | (with_reducible refine below_drewN ?_ _) | (with_reducible refine Below.alloc ?_ ?_ _) | (with_reducible refine Below.setCell ?_ ?_ _) | go_size)⟩
  rw [hg4] at he; simp only [getR] at he; subst he; have H4 := Lib.hid hg4; clear hg4
  go_wp2_with fail
  rw [rounds_succ]
  go_wp2_with fail
  (try simp only [Exit.inBlock, Exit.then]); refine bodyPost_ret (v := .tuple #[.agg #[.int .i64 n0, .int .i64 n1, .int .i64 n2, .int .i64 n3, .int .i64 n4], .int .i64 k4, .bool true]) (by rw [results_cell_tmp2 rfl]; go_simp) rfl ?_
  exact ⟨by rw [← HR.out]; simp [takeR, gots, odOf, Od.v, H0.out, H1.out, H2.out, H3.out, H4.out], by repeat' (first | (with_reducible exact hbz) | (with_reducible refine below_drewN ?_ _) | (with_reducible refine Below.alloc ?_ ?_ _) | (with_reducible refine Below.setCell ?_ ?_ _) | go_size)⟩

end Go.Proofs.YtncbjekmkihilaaDoor
