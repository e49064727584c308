/-
  The contracts of Names and Unsynced of the document's disk.
-/
import Derived.Test.YtceldekbkffhpaaQOps2
namespace Go.Proofs.Ytceldekbkffhpaa
open Go.RowKit
theorem ownsRow_succ' {w : World} {base n : Nat} {e : TypeId} {v : Value} {xs : List Value} (h : w.ownsRow base e 1 v (n + 1) xs) : ∃ g cap, v = .slice (some ⟨g, 0, none⟩) (n + 1) cap := by
  rcases h.2 with ⟨_, h0⟩ | ⟨g, cap, _, e, _⟩
  · omega
  · exact ⟨g, cap, e⟩
section
variable {w w' : World} {d : Nat} {D : Dsk.Dk} {S : Nat → Prop} {v kv : Value} {set : Bool} {left : Nat} {K : List Int}
set_option maxRecDepth 100000 in
set_option maxHeartbeats 1000000 in
theorem qnames_any (h : IsQ w d D S) : Calls Try.prog 16 #[.pointer (some ⟨d, 0, none⟩)] w (EachPost 9 w ((Dsk.names D.fs).map Value.string)) := by
  obtain ⟨v, set, left, kv, K, h⟩ := h
  obtain ⟨i0, hi0, hz0, hz1, hz2⟩ := info_parts Try.info_str
  have k3 := h.head.cells.2.2.2.1
  have hdl := lt_of_block h.head
  have hfew := h.few
  obtain ⟨A, c, hv, hlc, hcm, _⟩ := h.len
  have HF := Lib.hid (fun i (hi : i < D.fs.length) => h.at_ hi)
  subst hv
  unfold maxLen at hcm
  clear h
  go_enter Try.func16, Try.ntmps16
  go_wp2_with fail
  go_loopw [3, 4] (fun o i wr => ∃ (j : Nat) (OA : Option Addr) (oc : Nat), j ≤ D.fs.length ∧ i = .int .i64 j ∧ o = .slice OA j oc ∧ Hid (wr.ownsRow w.heap.size 9 1 (.slice OA j oc) j ((Dsk.names (D.fs.take j)).map Value.string)) ∧ Below w.heap.size w wr) (fun _ i _ => D.fs.length - (intOf i).toNat)
  case atStart => exact ⟨0, none, 0, Nat.zero_le _, rfl, rfl, Lib.hid (World.ownsRow_nil _ _ _ _), Below.refl _ _⟩
  case round =>
    obtain ⟨j, OA, oc, hj, rfl, rfl, HO, hb⟩ := hrel
    have q3 := (hb.cell (p := ⟨d, 3, none⟩) hdl).trans k3
    have hsz := hb.size
    by_cases hlt : j < D.fs.length
    · obtain ⟨g, c', hv, _, _, _, hgl, c1, c2, c3, _⟩ := HF.out j hlt
      injection hv with hv1 _ hv2
      subst hv1; subst hv2
      have d1 := (hb.cell (p := ⟨g, j * 3, none⟩) hgl).trans c1
      have HX : Hid ((Dsk.names (D.fs.take (j + 1))).map Value.string = (Dsk.names (D.fs.take j)).map Value.string ++ [.string D.fs[j].name]) := by
        unfold Hid; rw [List.take_succ_eq_append_getElem hlt]; unfold Dsk.names; rw [List.map_append, List.map_append]; rfl
      clear c1 c2 c3
      generalize D.fs[j].name = a at *
      have hmx : j + 1 ≤ maxLen := Nat.le_trans (show j + 1 ≤ 17 by omega) (by decide)
      go_wp2_with (at_builtin; refine wpList_append_own _ rfl _ _ 40 rfl w.heap.size 9 i0 (.string ⟨#[]⟩) 1 16 Try.underlying40 hi0 hz0 hz1 hz2 rfl (by decide) _ _ _ rfl (World.ownsRow.alloc HO.out _) ⟨wr.heap.size, 0, none⟩ 1 1 [.string a] rfl rfl (cell_one_new _ _ _) (fun x hx => by simp at hx; subst hx; rfl) hmx (by omega) (by simp; omega) ?_; intro v' w3 hown' hgrow3 _)
      have hg3 : (wr.alloc (.cells #[.string a] 9)).grownBy w3 (Value.slice OA j oc).ownBlock := hgrow3
      have hb3 : Below w.heap.size w w3 := (hb.alloc hb.size _).grown hg3 (Nat.le_trans hb.size (by simp)) (fun j e => (World.ownsRow.lt HO.out j e).1)
      obtain ⟨g3, cap3, rfl⟩ := ownsRow_succ' hown'
      go_roundw
      case rel => exact ⟨j + 1, some ⟨g3, 0, none⟩, cap3, by omega, by go_num, rfl, Lib.hid (by rw [HX.out]; exact hown'), hb3⟩
      case measure => simp [intOf]; omega
    · obtain rfl : j = D.fs.length := by omega
      rw [List.take_length] at HO
      go_wp2_with fail
      go_ret
      exact ⟨_, rfl, by rw [List.length_map, Dsk.names_len]; exact HO.out, hb⟩
set_option maxRecDepth 100000 in
set_option maxHeartbeats 1000000 in
theorem qunsync_any (h : IsQ w d D S) : Calls Try.prog 17 #[.pointer (some ⟨d, 0, none⟩)] w (EachPost 3 w ((Dsk.unsynced D.fs).map (Value.int .i64))) := by
  obtain ⟨v, set, left, kv, K, h⟩ := h
  obtain ⟨i0, hi0, hz0, hz1, hz2⟩ := info_parts Try.info_int
  have k3 := h.head.cells.2.2.2.1
  have hdl := lt_of_block h.head
  have hfew := h.few
  obtain ⟨A, c, hv, hlc, hcm, _⟩ := h.len
  have HF := Lib.hid (fun i (hi : i < D.fs.length) => h.at_ hi)
  have HG := Lib.hid (fun i (hi : i < D.fs.length) => (show D.fs[i].sure ≤ D.fs[i].data.length ∧ D.fs[i].data.length ≤ 1048576 from ⟨h.good.sure _ (List.getElem_mem hi), by
    have h1 := qtotal_take D.fs hi
    have h2 : Dsk.total (D.fs.take (i + 1)) ≤ Dsk.total D.fs := Dsk.total_sublist (List.take_sublist _ _)
    have := h.good.room
    have := h.good.cap1
    omega⟩))
  subst hv
  unfold maxLen at hcm
  clear h
  go_enter Try.func17, Try.ntmps17
  go_wp2_with fail
  go_loopw [3, 4] (fun o i wr => ∃ (j : Nat) (OA : Option Addr) (oc : Nat), j ≤ D.fs.length ∧ i = .int .i64 j ∧ o = .slice OA j oc ∧ Hid (wr.ownsRow w.heap.size 3 1 (.slice OA j oc) j ((Dsk.unsynced (D.fs.take j)).map (Value.int .i64))) ∧ Below w.heap.size w wr) (fun _ i _ => D.fs.length - (intOf i).toNat)
  case atStart => exact ⟨0, none, 0, Nat.zero_le _, rfl, rfl, Lib.hid (World.ownsRow_nil _ _ _ _), Below.refl _ _⟩
  case round =>
    obtain ⟨j, OA, oc, hj, rfl, rfl, HO, hb⟩ := hrel
    have q3 := (hb.cell (p := ⟨d, 3, none⟩) hdl).trans k3
    have hsz := hb.size
    by_cases hlt : j < D.fs.length
    · obtain ⟨g, c', hv, _, _, _, hgl, c1, c2, c3, _⟩ := HF.out j hlt
      injection hv with hv1 _ hv2
      subst hv1; subst hv2
      have d2 := (hb.cell (p := ⟨g, j * 3 + 1, none⟩) hgl).trans c2
      have d3 := (hb.cell (p := ⟨g, j * 3 + 2, none⟩) hgl).trans c3
      have HX : Hid ((Dsk.unsynced (D.fs.take (j + 1))).map (Value.int .i64) = (Dsk.unsynced (D.fs.take j)).map (Value.int .i64) ++ [.int .i64 ((D.fs[j].data.length - D.fs[j].sure : Nat) : Int)]) := by
        unfold Hid; rw [List.take_succ_eq_append_getElem hlt]; unfold Dsk.unsynced; rw [List.map_append, List.map_append]; rfl
      obtain ⟨hsu, hL⟩ := HG.out j hlt
      have hsz2 := str_size D.fs[j].data
      clear c1 c2 c3
      generalize D.fs[j].data.length = L at *
      generalize str D.fs[j].data = t at *
      generalize D.fs[j].sure = sr at *
      obtain ⟨u, hu⟩ : ∃ u : Nat, L - sr = u := ⟨_, rfl⟩
      have hu2 : (L : Int) - (sr : Int) = (u : Int) := by omega
      have hwr : IntKind.i64.wrap (u : Int) = (u : Int) := IntWalk.i64_in _ (by omega)
      rw [hu] at HX
      clear hu
      have hmx : j + 1 ≤ maxLen := Nat.le_trans (show j + 1 ≤ 17 by omega) (by decide)
      obtain ⟨v', w3, hr, hown', hgrow3, _⟩ := run_append_own (P := Try.prog) (wr.drew.alloc (.cells #[.int .i64 (u : Int)] 3)) w.heap.size 32 32 3 i0 (.int .i64 0) 1 8 Try.underlying32 hi0 hz0 hz1 hz2 rfl (by decide) (.slice OA j oc) _ _ (World.ownsRow.alloc (show World.ownsRow wr.drew _ _ _ _ _ _ from HO.out) _) ⟨wr.heap.size, 0, none⟩ 1 1 [.int .i64 (u : Int)] rfl (cell_one_new _ _ _) (fun x hx => by simp at hx; subst hx; rfl) hmx (by omega) (by simp; omega)
      have hg3 : (wr.drew.alloc (.cells #[.int .i64 (u : Int)] 3)).grownBy w3 (Value.slice OA j oc).ownBlock := hgrow3
      have hb3 : Below w.heap.size w w3 := (hb.drew.alloc hb.size _).grown hg3 (Nat.le_trans hb.size (by simp)) (fun j e => (World.ownsRow.lt HO.out j e).1)
      obtain ⟨g3, cap3, rfl⟩ := ownsRow_succ' hown'
      have HAP := Lib.hid hr
      have HB3 := Lib.hid hb3
      have HO3 := Lib.hid hown'
      clear hr hb3 hown' hg3 hgrow3
      go_wp2_with fail
      go_region_law (refine step_append_known rfl _ _ 32 32 rfl (.slice OA j oc) (.slice (some ⟨wr.heap.size, 0, none⟩) 1 1) (by simp [Act.eval]) (by simp [Act.eval]) HAP.out ?_)
      all_goals
        go_wp2_with fail
        go_roundw
        case rel => exact ⟨j + 1, some ⟨g3, 0, none⟩, cap3, by omega, by go_num, rfl, Lib.hid (by rw [HX.out]; exact HO3.out), HB3.out⟩
        case measure => simp [intOf]; omega
    · obtain rfl : j = D.fs.length := by omega
      rw [List.take_length] at HO
      go_wp2_with fail
      go_ret
      exact ⟨_, rfl, by rw [List.length_map, show (Dsk.unsynced D.fs).length = D.fs.length by simp [Dsk.unsynced]]; exact HO.out, hb⟩
end
end Go.Proofs.Ytceldekbkffhpaa
