/-
  Where all clocks are, in a list of new memory.
-/
import Derived.Test.YtljlighgjjiagaaKWorks
import Derived.ArgAppend
import Derived.OwnWalk
namespace Go.Proofs.Ytljlighgjjiagaa
open Go.RowKit
theorem Try.info_aint : (Try.prog.info? 3).map (fun i => (i.zero, i.size, i.bytes)) = some (some (.int .i64 0), 1, 8) := by kernel_rfl
theorem take_next {l : List Int} {j : Nat} (hj : j < l.length) : l.take (j + 1) = l.take j ++ [l.getD j 0] := by
  rw [List.take_succ_eq_append_getElem hj, List.getD, List.getElem?_eq_getElem hj]; rfl
/-- What all answers. -/
def AllPost (C : Clo.Cs) (w : World) (e : Ending) (w' : World) : Prop := ∃ A cv, e = .returned (.tuple #[.slice A C.l.length cv, .bool true]) ∧ Hid (w'.ownsRow w.heap.size 3 1 (.slice A C.l.length cv) C.l.length (C.l.map (Value.int .i64))) ∧ Hid (Below w.heap.size w w')
set_option maxRecDepth 100000 in
set_option maxHeartbeats 2000000 in
theorem all_any {w : World} {c : Nat} {C : Clo.Cs} (h : IsC w c C) : Calls Try.prog 18 #[.pointer (some ⟨c, 0, none⟩), .int .i64 (C.l.length : Int)] w (AllPost C w) := by
  obtain ⟨i0, hi0, hz0, hz1, hz2⟩ := info_parts Try.info_aint
  have HA := Lib.hid (fun (i : Nat) (hi : i < C.l.length) (X : World) (hX : Below w.heap.size w X) => (Clo.at_ok hi ▸ at_any (i : Int) (h.below hX)))
  have h7 := h.good.n7
  unfold AllPost
  obtain ⟨l, hl⟩ : ∃ l, C.l = l := ⟨_, rfl⟩
  rw [hl] at HA h7 ⊢
  clear h hl
  go_enter Try.func18, Try.ntmps18
  go_wp2_with fail
  go_loopw [6, 7] (fun tv iv wx => ∃ (tA : Option Addr) (tc k : Nat), k ≤ l.length ∧ tv = .slice tA k tc ∧ iv = .int .i64 k ∧ Hid (wx.ownsRow w.heap.size 3 1 (.slice tA k tc) k ((l.take k).map (Value.int .i64))) ∧ Below w.heap.size w wx) (fun _ i _ => l.length - (intOf i).toNat)
  case atStart => exact ⟨none, 0, 0, Nat.zero_le _, rfl, rfl, Lib.hid (World.ownsRow_nil _ _ _ _), Below.refl _ _⟩
  case round =>
    obtain ⟨tA, tc, k, hk, rfl, rfl, HO, hb⟩ := hrel
    by_cases hlt : k < l.length
    · have HT := Lib.hid (take_next hlt)
      have HAk := Lib.hid (HA.out k hlt)
      have hsz := hb.size
      have hmx : k + 1 ≤ maxLen := Nat.le_trans (show k + 1 ≤ 8 by omega) (by decide)
      generalize l.getD k 0 = y at *
      go_wp2_with fail
      refine (HAk.out _ hb).mono ?_
      rintro e w' ⟨rfl, rfl⟩
      go_wp2_with (at_builtin; refine wpList_append_own _ rfl _ _ 22 rfl w.heap.size 3 i0 (.int .i64 0) 1 8 Try.underlying22 hi0 hz0 hz1 hz2 rfl (by decide) _ _ _ rfl (World.ownsRow.alloc HO.out _) ⟨wr.heap.size, 0, none⟩ 1 1 [.int .i64 y] rfl rfl (cell_one_new _ _ _) (fun x hx => by simp at hx; subst hx; rfl) hmx (by omega) (by simp; omega) ?_; intro v' w3 hown' hgrow3 _)
      have hg3 : (wr.alloc (.cells #[.int .i64 y] 3)).grownBy w3 (Value.slice tA k tc).ownBlock := hgrow3
      have hb3 : Below w.heap.size w w3 := (hb.alloc hb.size _).grown hg3 (Nat.le_trans hb.size (by simp)) (fun j e => (World.ownsRow.lt HO.out j e).1)
      obtain ⟨g, cap, rfl⟩ := ownsRow_succ hown'
      go_roundw
      case rel => exact ⟨some ⟨g, 0, none⟩, cap, k + 1, by omega, rfl, by go_num, Lib.hid (by rw [HT.out, List.map_append]; exact hown'), hb3⟩
      case measure => simp [intOf]; omega
    · obtain rfl : k = l.length := by omega
      rw [List.take_length] at HO
      go_wp2_with fail
      go_ret2
      exact ⟨tA, tc, rfl, HO, hb⟩
end Go.Proofs.Ytljlighgjjiagaa
