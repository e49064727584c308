/-
  unmark and orderOf of package mail.
-/
import Derived.Test.YtkdnhfeamibmdaaDoorMlEnc
import Derived.Test.YtkdnhfeamibmdaaDoorGet
import Derived.Test.YtkdnhfeamibmdaaDoorRcOne
import Derived.StillTailTactics
namespace Go.Proofs.YtkdnhfeamibmdaaDoor
open Go.RowKit
def UnPost (s : ByteArray) (w : World) (e : Ending) (w' : World) : Prop :=
  Below w.heap.size w w' ∧ ((∃ ns A c, IntsOk ns ∧ markL ns = bytesOf s ∧ ns.length ≤ 402 ∧ e = .returned (.tuple #[.slice A ns.length c, .bool true]) ∧ OwnI w' w.heap.size (.slice A ns.length c) ns) ∨
    ((∀ ns, IntsOk ns → markL ns = bytesOf s → 402 < ns.length) ∧ e = .returned (.tuple #[.slice none 0 0, .bool false])))
theorem Rds.more {l : List UInt8} {a : Nat} {ns ms : List Int} (h : Rds l 0 ns a) (ha : a < l.length) (hm : IntsOk ms) (he : markL ms = l) : ∃ n b, got l (a : Int) = some (n, b) ∧ ns.length < ms.length := by
  obtain ⟨h1, h2, h3⟩ := h.ahead hm he
  rcases hd : ms.drop ns.length with _ | ⟨n, r⟩
  · rw [hd] at h3
    have := h3.nil_eq
    omega
  · rw [hd] at h3
    obtain ⟨b, hb, _⟩ := Rds.cons_iff.1 h3
    have hl := congrArg List.length hd
    rw [List.length_drop, List.length_cons] at hl
    exact ⟨n, b, hb, by omega⟩
set_option maxRecDepth 100000 in
set_option maxHeartbeats 4000000 in
theorem unmark_any (s : ByteArray) (hs : s.size ≤ 1000000) (w : World) : Calls Tryd.prog 51 #[.string s] w (UnPost s w) := by
  have HS : Hid (s.size ≤ maxLen) := by show _ ≤ _; unfold maxLen; omega
  have HL := Lib.hid (bytes_len s)
  go_enter Tryd.func51, Tryd.ntmps51
  go_wp2_with fail
  go_loopw [2, 4] (fun u i wr => ∃ (ns : List Int) (a : Nat), i = .int .i64 a ∧ Rds (bytesOf s) 0 ns a ∧ ns.length ≤ 402 ∧ (∃ A c, u = .slice A ns.length c ∧ OwnI wr w.heap.size (.slice A ns.length c) ns) ∧ Below w.heap.size w wr) (fun _ i _ => s.size - (intOf i).toNat)
  case atStart => exact ⟨[], 0, rfl, Rds.nil (Nat.zero_le _), Nat.zero_le _, ⟨none, 0, rfl, OwnI.nil _ _⟩, Below.refl _ _⟩
  case round =>
    obtain ⟨ns, a, rfl, hrd, hn, ⟨A, c, rfl, hown⟩, hbel⟩ := hrel
    have hbd := hrd.bd.2
    rw [HL.out] at hbd
    have HOW := Lib.hid hown
    have HB := Lib.hid hbel
    have HRD := Lib.hid hrd
    clear hown hbel
    by_cases hlt : a < s.size
    · have hii : (a : Int) < (s.size : Int) := by omega
      have hlt2 : a < (bytesOf s).length := by rw [HL.out]; exact hlt
      have HMO := Lib.hid (fun ms hm he => hrd.more (ms := ms) hlt2 hm he)
      rcases hg : got (bytesOf s) (a : Int) with _ | ⟨x, b⟩
      · have G : Hid (∀ X, Calls Tryd.prog 75 #[.string s, .int .i64 a] X fun e w' => X = w' ∧ e = .returned (.tuple #[.int .i64 0, .int .i64 0, .bool false])) := fun X => (get_any s a X HS.out).mono fun e w' h => ⟨h.1, by rw [h.2, hg]; rfl⟩
        have HNO : Hid (∀ ms, IntsOk ms → markL ms = bytesOf s → 402 < ms.length) := fun ms hm he => by
          obtain ⟨n, b, h1, _⟩ := HMO.out ms hm he
          rw [hg] at h1
          cases h1
        clear hg hlt2 HMO hrd
        go_wp2_with fail
        refine (G.out _).mono ?_
        rintro e w1 ⟨rfl, rfl⟩
        go_wp2_with fail
        go_ret2
        exact ⟨HB.out, .inr ⟨HNO.out, rfl⟩⟩
      · have G : Hid (∀ X, Calls Tryd.prog 75 #[.string s, .int .i64 a] X fun e w' => X = w' ∧ e = .returned (.tuple #[.int .i64 x, .int .i64 b, .bool true])) := fun X => (get_any s a X HS.out).mono fun e w' h => ⟨h.1, by rw [h.2, hg]; rfl⟩
        have HR1 := Lib.hid (got_rds.1 hg)
        have HGT := Lib.hid (show a < b from by
          obtain ⟨hi, p, q, _, h1, h2⟩ := got_rds.1 hg
          have := (markL_len hi).1
          simp at this
          omega)
        have hb := HR1.out.bd.2
        rw [HL.out] at hb
        by_cases h402 : ns.length = 402
        · have t : ((ns.length : Int) == 402) = true := by simp; omega
          have HNO : Hid (∀ ms, IntsOk ms → markL ms = bytesOf s → 402 < ms.length) := fun ms hm he => by
            obtain ⟨n, b, _, h1⟩ := HMO.out ms hm he
            omega
          clear hg hlt2 HMO hrd h402
          go_wp2_with fail
          refine (G.out _).mono ?_
          rintro e w1 ⟨rfl, rfl⟩
          go_wp2_with fail
          go_ret2
          exact ⟨HB.out, .inr ⟨HNO.out, rfl⟩⟩
        · have t : ((ns.length : Int) == 402) = false := by simp; omega
          have hb3 : Below wr.heap.size wr (wr.alloc (.cells #[.int .i64 x] 3)) := (Below.refl _ _).alloc (Nat.le_refl _) _
          have hr3 : IntRow (wr.alloc (.cells #[.int .i64 x] 3)) wr.heap.size [x] := heap_alloc_new _ _
          obtain ⟨A4, c4, w4, hrun, ho4, hg4⟩ := run_app_row (HOW.out.below hb3) hr3 (Nat.le_trans HB.out.size hb3.size) (N := ns.length + 1) (by simp) (by omega)
          have HAP := Lib.hid hrun
          have HO4 := Lib.hid ho4
          have HB4 := Lib.hid ((HB.out.trans (hb3.mono HB.out.size)).grown hg4 (Nat.le_trans HB.out.size hb3.size) (fun j hj => (HOW.out.lt hj).1))
          have HRDN := Lib.hid (hrd.append HR1.out)
          have HLN : Hid ((ns ++ [x]).length = ns.length + 1) := by show _ = _; simp
          have HN : Hid (ns.length + 1 ≤ 402) := by show _ ≤ _; omega
          clear hg hlt2 HMO hrd h402 hb3 hr3 hrun ho4 hg4
          go_wp2_with fail
          refine (G.out _).mono ?_
          rintro e w1 ⟨rfl, rfl⟩
          go_wp2_with (at_builtin; refine wpList_append_run _ rfl _ _ _ _ rfl _ _ rfl rfl HAP.out ?_)
          go_roundw
          case rel => exact ⟨ns ++ [x], b, rfl, HRDN.out, by rw [HLN.out]; exact HN.out, ⟨A4, c4, by rw [HLN.out], by rw [HLN.out]; exact HO4.out⟩, HB4.out⟩
          case measure => have := HGT.out; simp [intOf]; omega
    · have ha : a = (bytesOf s).length := by rw [HL.out]; omega
      have HW := Lib.hid (Rds.whole.1 (ha ▸ hrd))
      clear ha hrd
      go_wp2_with fail
      go_ret2
      exact ⟨HB.out, .inl ⟨ns, A, c, HW.out.1, HW.out.2.symm, hn, rfl, HOW.out⟩⟩
set_option maxRecDepth 100000 in
set_option maxHeartbeats 4000000 in
/-- The order with whose numbers a slice begins. -/
theorem orderOf_any {w : World} {g o n c : Nat} (x0 x1 x2 x3 x4 : Int) (hn : 5 ≤ n) (h : ∀ j x, ([x0, x1, x2, x3, x4] : List Int)[j]? = some x → w.cell? ⟨g, o + j, none⟩ = some (.int .i64 x)) (hg : g < w.heap.size) :
    Calls Tryd.prog 76 #[.slice (some ⟨g, o, none⟩) n c] w (NumPost (.agg #[.int .i64 x0, .int .i64 x1, .int .i64 x2, .int .i64 x3, .int .i64 x4]) w) := by
  obtain ⟨w1, HW1⟩ : ∃ w1, Hid (w.alloc (.cells #[.int .i64 0, .int .i64 0, .int .i64 0, .int .i64 0, .int .i64 0] 28) = w1) := ⟨_, Lib.hid rfl⟩
  have hb : Below w.heap.size w w1 := by rw [← HW1.out]; exact (Below.refl _ _).alloc (Nat.le_refl _) _
  have HX1 : w1.heap[w.heap.size]? = some (.cells #[.int .i64 0, .int .i64 0, .int .i64 0, .int .i64 0, .int .i64 0] 28 (0, 0)) := by rw [← HW1.out]; exact heap_alloc_new _ _
  have q0 := (hb.cell (p := ⟨g, o + 0, none⟩) hg).trans (h 0 x0 rfl)
  have q1 := (hb.cell (p := ⟨g, o + 1, none⟩) hg).trans (h 1 x1 rfl)
  have q2 := (hb.cell (p := ⟨g, o + 2, none⟩) hg).trans (h 2 x2 rfl)
  have q3 := (hb.cell (p := ⟨g, o + 3, none⟩) hg).trans (h 3 x3 rfl)
  have q4 := (hb.cell (p := ⟨g, o + 4, none⟩) hg).trans (h 4 x4 rfl)
  rw [Nat.add_zero] at q0
  have b0 : w1.cell? ⟨w.heap.size, 0, none⟩ = some (.int .i64 0) := by rw [Lib.cell_of_heap HX1]; rfl
  have b1 : w1.cell? ⟨w.heap.size, 1, none⟩ = some (.int .i64 0) := by rw [Lib.cell_of_heap HX1]; rfl
  have b2 : w1.cell? ⟨w.heap.size, 2, none⟩ = some (.int .i64 0) := by rw [Lib.cell_of_heap HX1]; rfl
  have b3 : w1.cell? ⟨w.heap.size, 3, none⟩ = some (.int .i64 0) := by rw [Lib.cell_of_heap HX1]; rfl
  have b4 : w1.cell? ⟨w.heap.size, 4, none⟩ = some (.int .i64 0) := by rw [Lib.cell_of_heap HX1]; rfl
  have f0 : w1.frozen? ⟨w.heap.size, 0, none⟩ = false := Lib.frozen_of_heap HX1 _
  have f1 : w1.frozen? ⟨w.heap.size, 1, none⟩ = false := Lib.frozen_of_heap HX1 _
  have f2 : w1.frozen? ⟨w.heap.size, 2, none⟩ = false := Lib.frozen_of_heap HX1 _
  have f3 : w1.frozen? ⟨w.heap.size, 3, none⟩ = false := Lib.frozen_of_heap HX1 _
  have f4 : w1.frozen? ⟨w.heap.size, 4, none⟩ = false := Lib.frozen_of_heap HX1 _
  have HB := Lib.hid hb
  have i0 : (0 : Int) < (n : Int) := by omega
  have j0 : 0 < n := by omega
  have i1 : (1 : Int) < (n : Int) := by omega
  have j1 : 1 < n := by omega
  have i2 : (2 : Int) < (n : Int) := by omega
  have j2 : 2 < n := by omega
  have i3 : (3 : Int) < (n : Int) := by omega
  have j3 : 3 < n := by omega
  have i4 : (4 : Int) < (n : Int) := by omega
  have j4 : 4 < n := by omega
  clear h hb HX1
  go_enter Tryd.func76, Tryd.ntmps76
  go_wp2_with (rw [HW1.out])
  go_still_tail 16, (by kernel_rfl)
  go_wp2_with fail
  (try simp only [Exit.inBlock, Exit.then]); refine bodyPost_ret (v := .agg #[.int .i64 x0, .int .i64 x1, .int .i64 x2, .int .i64 x3, .int .i64 x4]) (by rw [results_cell_one rfl]; go_simp) rfl ?_
  exact ⟨rfl, by (repeat' (first | (with_reducible exact HB.out) | (with_reducible refine Below.drew ?_) | (with_reducible refine below_drewN ?_ _) | (with_reducible refine Below.alloc ?_ ?_ _) | (with_reducible refine Below.setCell ?_ ?_ _) | go_size))⟩
end Go.Proofs.YtkdnhfeamibmdaaDoor
