/-
  The contracts of Grant, Release, New.
-/
import Derived.Test.YtopdjmjlnflhfaaBkCalls
import Derived.Laws.Rows
import Derived.OpenShut
namespace Go.Proofs.Ytopdjmjlnflhfaa
open Go.RowKit Go.Sort Go.Maps
theorem map_run0 (X : World) : (Instr.makeMap 29 none).run Try.prog X = .ok (.map (some X.heap.size)) (X.alloc (.map #[] 0)) := by
  simp [Instr.makeMap, Result.andThen]
section
variable {w : World} {p m n : Nat} {B : Lea.Bk} {s e now : Int}
theorem put_bk (h : IsBk w p m n B) {D : DataW Unit} (hD : w.ownsMap Try.prog 3 gElem m n D) (hS : Says D B.g) (hs : (Lit.int .i64 s).wf = true) {x : Int × Int} (hx : (1 ≤ x.1 ∧ x.1 ≤ 9223372036854775807) ∧ -9223372036854775808 ≤ x.2 ∧ x.2 ≤ 9223372036854775807) {X w' : World} (hX : Below w.heap.size w X)
    (ho : w'.ownsMap Try.prog 3 gElem m (n + 1) (D.put (gkey s) (.agg [.lit (.int .i64 x.1), .lit (.int .i64 x.2)]))) (hg : X.grownBy w' (some m)) : IsBk w' p m (n + 1) (B.set s x) ∧ Foot (fun k => k = m) w w' := by
  have hp := h.lt
  have hne := h.ne
  have hsz := hX.size
  refine ⟨⟨((hg.block p (by omega) (by simpa using hne)).trans (hX.block p hp)).trans h.head, ⟨_, ho, hS.put hD.isMap hs x⟩, h.good.set hx⟩, ?_⟩
  exact (below_foot hX).trans (Foot.grown hg) fun i _ hi => by injection hi with hi; exact hi.symm
set_option maxRecDepth 100000 in
set_option maxHeartbeats 2000000 in
theorem grant_bad (h : IsBk w p m n B) (hb : s < 0 ∨ 4 ≤ s ∨ e < 1) : Calls Try.prog 8 #[.pointer (some ⟨p, 0, none⟩), .int .i64 s, .int .i64 e, .int .i64 now] w fun x w' => x = .returned (.int .i64 2) ∧ w = w' := by
  have HN := Lib.hid (isNone_no h)
  clear h
  by_cases h1 : s < 0
  · clear hb
    go_enter Try.func8, Try.ntmps8
    go_wp2_with fail
    refine HN.out.mono ?_
    rintro e w1 ⟨rfl, rfl⟩
    go_wp2_with fail
    go_ret
    exact ⟨rfl, rfl⟩
  · by_cases h2 : 4 ≤ s
    · clear hb
      go_enter Try.func8, Try.ntmps8
      go_wp2_with fail
      refine HN.out.mono ?_
      rintro e w1 ⟨rfl, rfl⟩
      go_wp2_with fail
      go_ret
      exact ⟨rfl, rfl⟩
    · have h3 : e < 1 := by omega
      clear hb
      go_enter Try.func8, Try.ntmps8
      go_wp2_with fail
      refine HN.out.mono ?_
      rintro e w1 ⟨rfl, rfl⟩
      go_wp2_with fail
      go_ret
      exact ⟨rfl, rfl⟩
set_option maxRecDepth 100000 in
set_option maxHeartbeats 2000000 in
theorem grant_new (h : IsBk w p m n B) (hn : n < 1000000) (h0 : 0 ≤ s) (h4 : s < 4) (he : 1 ≤ e) (he2 : e ≤ 9223372036854775807) (ht : -9223372036854775808 ≤ now) (hg : B.g s = none) :
    Calls Try.prog 8 #[.pointer (some ⟨p, 0, none⟩), .int .i64 s, .int .i64 e, .int .i64 now] w (Bks w p m (n + 1) 0 (B.set s (e, Lea.over now))) := by
  have hs : (Lit.int .i64 s).wf = true := WalkArith.wf_i64 (by omega)
  have HN := Lib.hid (isNone_no h)
  have HL := Lib.hid (h.at_none hs hg)
  have HEnd := Lib.hid (fun X => end_any now ht X)
  have hkey := Lib.hid (keyOf_s hs)
  have c1 := h.ptr
  have hp := h.lt
  obtain ⟨D, hD, hS⟩ := h.map
  have HP := Lib.hid (fun (X w' : World) => put_bk (X := X) (w' := w') h hD hS hs (x := (e, Lea.over now)) ⟨⟨he, he2⟩, by have := Lea.over_in ht; dsimp only; omega, by have := Lea.over_in ht; dsimp only; omega⟩)
  have HDX := Lib.hid (fun (X : World) (hX : Below w.heap.size w X) => owns_block hD (hX.block m h.mlt))
  have HC := Lib.hid (fun (X : World) (hX : Below w.heap.size w X) => (hX.cell (p := ⟨p, 1, none⟩) hp).trans c1)
  generalize Lea.over now = u at *
  have hee : (e == 0) = false := by simp only [beq_eq_false_iff_ne, ne_eq]; omega
  clear hg h hD hS
  go_enter Try.func8, Try.ntmps8
  go_wp2_with fail
  refine HN.out.mono ?_
  rintro e w1 ⟨rfl, rfl⟩
  go_wp2_with (first | (at_lookup; refine wpList_lookup_known rfl _ _ _ _ rfl _ _ _ rfl rfl HL.out ?_))
  refine (HEnd.out _).mono ?_
  rintro e w1 ⟨rfl, rfl⟩
  go_wp2_with fail
  refine wp_region_tail_drawn 6 (by kernel_rfl) (by kernel_rfl) ?_
  simp only [List.take_succ_cons, List.take_zero, List.drop_succ_cons, List.drop_zero]
  repeat (go_big_quiet_step (fail))
  refine wpQuiet_nil ?_
  rintro w1 ⟨k, rfl⟩
  have hX : Below w.heap.size w (((w.alloc (.cells #[.int .i64 0, .int .i64 0] 41)).alloc (.cells #[.int .i64 e, .int .i64 u] 41)).drewN k) := below_drewN (((Below.refl _ w).alloc (Nat.le_refl _) _).alloc (by simp) _) _
  refine wpList_mapUpdate_own _ rfl _ _ _ 29 rfl 3 41 int_key Try.underlying29 gElem m n D rfl (HDX.out _ hX) (by unfold maxLen; omega) _ _ (gkey s) rfl rfl hkey.out _ [] (gElem_mk e u) ?_
  intro w2 ho hg
  have HQ := Lib.hid (HP.out _ _ hX ho hg)
  clear ho hg hX HP HDX
  go_wp2_with fail
  go_ret
  exact ⟨rfl, HQ.out.1, HQ.out.2⟩
set_option maxRecDepth 100000 in
set_option maxHeartbeats 2000000 in
theorem grant_same (h : IsBk w p m n B) (hn : n < 1000000) (h0 : 0 ≤ s) (h4 : s < 4) (he : 1 ≤ e) (he2 : e ≤ 9223372036854775807) (ht : -9223372036854775808 ≤ now) {f o : Int} (hg : B.g s = some (f, o)) (hfe : e = f) :
    Calls Try.prog 8 #[.pointer (some ⟨p, 0, none⟩), .int .i64 s, .int .i64 e, .int .i64 now] w (Bks w p m (n + 1) 0 (B.set s (e, max (Lea.over now) o))) := by
  have hs : (Lit.int .i64 s).wf = true := WalkArith.wf_i64 (by omega)
  have HN := Lib.hid (isNone_no h)
  have HL := Lib.hid (h.at_some hs hg)
  have HEnd := Lib.hid (fun X => end_any now ht X)
  have hkey := Lib.hid (keyOf_s hs)
  have c1 := h.ptr
  have hp := h.lt
  have hB := h.good.g s _ hg
  dsimp only at hB
  have hov := Lea.over_in ht
  obtain ⟨D, hD, hS⟩ := h.map
  subst hfe
  have HP := Lib.hid (fun (X w' : World) => put_bk (X := X) (w' := w') h hD hS hs (x := (e, max (Lea.over now) o)) ⟨⟨he, he2⟩, by dsimp only; omega, by dsimp only; omega⟩)
  have HDX := Lib.hid (fun (X : World) (hX : Below w.heap.size w X) => owns_block hD (hX.block m h.mlt))
  have HC := Lib.hid (fun (X : World) (hX : Below w.heap.size w X) => (hX.cell (p := ⟨p, 1, none⟩) hp).trans c1)
  have HBk := Lib.hid h
  clear hg h hD hS hov
  generalize Lea.over now = u at *
  go_enter Try.func8, Try.ntmps8
  go_wp2_with fail
  refine HN.out.mono ?_
  rintro x w1 ⟨rfl, rfl⟩
  go_wp2_with (first | (at_lookup; refine wpList_lookup_known rfl _ _ _ _ rfl _ _ _ rfl rfl HL.out ?_))
  refine (HEnd.out _).mono ?_
  rintro x w1 ⟨rfl, rfl⟩
  go_wp2_with fail
  refine wp_region_tail_drawn 6 (by kernel_rfl) (by kernel_rfl) ?_
  simp only [List.take_succ_cons, List.take_zero, List.drop_succ_cons, List.drop_zero]
  repeat (go_big_quiet_step (fail))
  refine wpQuiet_nil ?_
  rintro w1 ⟨k, rfl⟩
  have hX : Below w.heap.size w (((w.alloc (.cells #[.int .i64 e, .int .i64 o] 41)).alloc (.cells #[.int .i64 e, .int .i64 (max u o)] 41)).drewN k) := below_drewN (((Below.refl _ w).alloc (Nat.le_refl _) _).alloc (by simp) _) _
  refine wpList_mapUpdate_own _ rfl _ _ _ 29 rfl 3 41 int_key Try.underlying29 gElem m n D rfl (HDX.out _ hX) (by unfold maxLen; omega) _ _ (gkey s) rfl rfl hkey.out _ [] (gElem_mk e (max u o)) ?_
  intro w2 ho hg
  have HQ := Lib.hid (HP.out _ _ hX ho hg)
  clear ho hg hX HP HDX
  go_wp2_with fail
  go_ret
  exact ⟨rfl, HQ.out.1, HQ.out.2⟩
set_option maxRecDepth 100000 in
set_option maxHeartbeats 2000000 in
theorem grant_more (h : IsBk w p m n B) (hn : n < 1000000) (h0 : 0 ≤ s) (h4 : s < 4) (he : 1 ≤ e) (he2 : e ≤ 9223372036854775807) (ht : -9223372036854775808 ≤ now) {f o : Int} (hg : B.g s = some (f, o)) (hfe : f < e) :
    Calls Try.prog 8 #[.pointer (some ⟨p, 0, none⟩), .int .i64 s, .int .i64 e, .int .i64 now] w (Bks w p m (n + 1) 0 (B.set s (e, Lea.over now))) := by
  have hs : (Lit.int .i64 s).wf = true := WalkArith.wf_i64 (by omega)
  have HN := Lib.hid (isNone_no h)
  have HL := Lib.hid (h.at_some hs hg)
  have HEnd := Lib.hid (fun X => end_any now ht X)
  have hkey := Lib.hid (keyOf_s hs)
  have c1 := h.ptr
  have hp := h.lt
  have hB := h.good.g s _ hg
  dsimp only at hB
  have hov := Lea.over_in ht
  obtain ⟨D, hD, hS⟩ := h.map
  have HP := Lib.hid (fun (X w' : World) => put_bk (X := X) (w' := w') h hD hS hs (x := (e, Lea.over now)) ⟨⟨he, he2⟩, by dsimp only; omega, by dsimp only; omega⟩)
  have HDX := Lib.hid (fun (X : World) (hX : Below w.heap.size w X) => owns_block hD (hX.block m h.mlt))
  have HC := Lib.hid (fun (X : World) (hX : Below w.heap.size w X) => (hX.cell (p := ⟨p, 1, none⟩) hp).trans c1)
  have HBk := Lib.hid h
  clear hg h hD hS hov
  generalize Lea.over now = u at *
  have t1 : (e == f) = false := by simp only [beq_eq_false_iff_ne, ne_eq]; omega
  go_enter Try.func8, Try.ntmps8
  go_wp2_with fail
  refine HN.out.mono ?_
  rintro x w1 ⟨rfl, rfl⟩
  go_wp2_with (first | (at_lookup; refine wpList_lookup_known rfl _ _ _ _ rfl _ _ _ rfl rfl HL.out ?_))
  refine (HEnd.out _).mono ?_
  rintro x w1 ⟨rfl, rfl⟩
  go_wp2_with fail
  refine wp_region_tail_drawn 6 (by kernel_rfl) (by kernel_rfl) ?_
  simp only [List.take_succ_cons, List.take_zero, List.drop_succ_cons, List.drop_zero]
  repeat (go_big_quiet_step (fail))
  refine wpQuiet_nil ?_
  rintro w1 ⟨k, rfl⟩
  have hX : Below w.heap.size w (((w.alloc (.cells #[.int .i64 f, .int .i64 o] 41)).alloc (.cells #[.int .i64 e, .int .i64 u] 41)).drewN k) := below_drewN (((Below.refl _ w).alloc (Nat.le_refl _) _).alloc (by simp) _) _
  refine wpList_mapUpdate_own _ rfl _ _ _ 29 rfl 3 41 int_key Try.underlying29 gElem m n D rfl (HDX.out _ hX) (by unfold maxLen; omega) _ _ (gkey s) rfl rfl hkey.out _ [] (gElem_mk e u) ?_
  intro w2 ho hg
  have HQ := Lib.hid (HP.out _ _ hX ho hg)
  clear ho hg hX HP HDX
  go_wp2_with fail
  go_ret
  exact ⟨rfl, HQ.out.1, HQ.out.2⟩
set_option maxRecDepth 100000 in
set_option maxHeartbeats 2000000 in
theorem grant_less (h : IsBk w p m n B) (h0 : 0 ≤ s) (h4 : s < 4) (he : 1 ≤ e) (he2 : e ≤ 9223372036854775807) (ht : -9223372036854775808 ≤ now) {f o : Int} (hg : B.g s = some (f, o)) (hfe : e < f) :
    Calls Try.prog 8 #[.pointer (some ⟨p, 0, none⟩), .int .i64 s, .int .i64 e, .int .i64 now] w (Bks w p m (n + 1) 0 (B)) := by
  have hs : (Lit.int .i64 s).wf = true := WalkArith.wf_i64 (by omega)
  have HN := Lib.hid (isNone_no h)
  have HL := Lib.hid (h.at_some hs hg)
  have HEnd := Lib.hid (fun X => end_any now ht X)
  have hkey := Lib.hid (keyOf_s hs)
  have c1 := h.ptr
  have hp := h.lt
  have hB := h.good.g s _ hg
  dsimp only at hB
  have hov := Lea.over_in ht
  obtain ⟨D, hD, hS⟩ := h.map
  have HP := Lib.hid (fun (X w' : World) => put_bk (X := X) (w' := w') h hD hS hs (x := (e, Lea.over now)) ⟨⟨he, he2⟩, by dsimp only; omega, by dsimp only; omega⟩)
  have HDX := Lib.hid (fun (X : World) (hX : Below w.heap.size w X) => owns_block hD (hX.block m h.mlt))
  have HC := Lib.hid (fun (X : World) (hX : Below w.heap.size w X) => (hX.cell (p := ⟨p, 1, none⟩) hp).trans c1)
  have HBk := Lib.hid h
  clear hg h hD hS hov
  generalize Lea.over now = u at *
  have t1 : (e == f) = false := by simp only [beq_eq_false_iff_ne, ne_eq]; omega
  go_enter Try.func8, Try.ntmps8
  go_wp2_with fail
  refine HN.out.mono ?_
  rintro x w1 ⟨rfl, rfl⟩
  go_wp2_with (first | (at_lookup; refine wpList_lookup_known rfl _ _ _ _ rfl _ _ _ rfl rfl HL.out ?_))
  refine (HEnd.out _).mono ?_
  rintro x w1 ⟨rfl, rfl⟩
  go_wp2_with fail
  go_ret
  exact ⟨rfl, (HBk.out.below (((Below.refl _ w).alloc (Nat.le_refl _) _).alloc (by simp) _)).more (Nat.le_succ n), below_foot (((Below.refl _ w).alloc (Nat.le_refl _) _).alloc (by simp) _)⟩
theorem grant_any (h : IsBk w p m n B) (hn : n < 1000000) (he : (Lit.int .i64 e).wf = true) (ht : (Lit.int .i64 now).wf = true) :
    Calls Try.prog 8 #[.pointer (some ⟨p, 0, none⟩), .int .i64 s, .int .i64 e, .int .i64 now] w (Bks w p m (n + 1) (Lea.grant B s e now).2 (Lea.grant B s e now).1) := by
  have he' := bounds_i64 he
  have ht' := bounds_i64 ht
  unfold Lea.grant
  by_cases hb : s < 0 ∨ 4 ≤ s ∨ e < 1
  · rw [if_pos hb]
    refine (grant_bad h hb).mono ?_
    rintro x w1 ⟨rfl, rfl⟩
    exact ⟨rfl, h.more (Nat.le_succ n), Foot.refl _ _⟩
  · rw [if_neg hb]
    cases hg : B.g s with
    | none => exact grant_new h hn (by omega) (by omega) (by omega) he'.2 ht'.1 hg
    | some x =>
      obtain ⟨f, o⟩ := x
      unfold Lea.next
      dsimp only
      by_cases c1 : e = f
      · rw [if_pos c1]
        exact grant_same h hn (by omega) (by omega) (by omega) he'.2 ht'.1 hg c1
      · rw [if_neg c1]
        by_cases c2 : f < e
        · rw [if_pos c2]
          exact grant_more h hn (by omega) (by omega) (by omega) he'.2 ht'.1 hg c2
        · rw [if_neg c2]
          exact grant_less h (by omega) (by omega) (by omega) he'.2 ht'.1 hg (by omega)
set_option maxRecDepth 100000 in
set_option maxHeartbeats 2000000 in
theorem release_any (h : IsBk w p m n B) (hn : n < 1000000) (hs : (Lit.int .i64 s).wf = true) :
    Calls Try.prog 9 #[.pointer (some ⟨p, 0, none⟩), .int .i64 s, .int .i64 e] w (Bks w p m (n + 1) 0 (Lea.release B s e)) := by
  have HN := Lib.hid (isNone_no h)
  have hkey := Lib.hid (keyOf_s hs)
  have c1 := h.ptr
  have hp := h.lt
  unfold Lea.release
  cases hg : B.g s with
  | none =>
    have HL := Lib.hid (h.ok_none hs hg)
    have HBk := Lib.hid h
    clear h hg
    go_enter Try.func9, Try.ntmps9
    go_wp2_with fail
    refine HN.out.mono ?_
    rintro x w1 ⟨rfl, rfl⟩
    go_wp2_with (first | (at_lookup; refine wpList_lookup_known rfl _ _ _ _ rfl _ _ _ rfl rfl HL.out ?_))
    go_ret
    exact ⟨rfl, (HBk.out.below ((Below.refl _ w).alloc (Nat.le_refl _) _)).more (Nat.le_succ n), below_foot ((Below.refl _ w).alloc (Nat.le_refl _) _)⟩
  | some y =>
    obtain ⟨f, o⟩ := y
    have HL := Lib.hid (h.ok_some hs hg)
    have HBk := Lib.hid h
    dsimp only
    by_cases hfe : f = e
    · rw [if_pos hfe]
      subst hfe
      have hB := h.good.g s _ hg
      dsimp only at hB
      obtain ⟨D, hD, hS⟩ := h.map
      have HP := Lib.hid (fun (X w' : World) => put_bk (X := X) (w' := w') h hD hS hs (x := (f, Lea.least)) ⟨hB.1, by show -9223372036854775808 ≤ Lea.least; decide, by show Lea.least ≤ 9223372036854775807; decide⟩)
      have HDX := Lib.hid (fun (X : World) (hX : Below w.heap.size w X) => owns_block hD (hX.block m h.mlt))
      clear h hg hD hS hB
      go_enter Try.func9, Try.ntmps9
      go_wp2_with fail
      refine HN.out.mono ?_
      rintro x w1 ⟨rfl, rfl⟩
      go_wp2_with (first | (at_lookup; refine wpList_lookup_known rfl _ _ _ _ rfl _ _ _ rfl rfl HL.out ?_))
      refine wp_region_tail_drawn 6 (by kernel_rfl) (by kernel_rfl) ?_
      simp only [List.take_succ_cons, List.take_zero, List.drop_succ_cons, List.drop_zero]
      repeat (go_big_quiet_step (fail))
      refine wpQuiet_nil ?_
      rintro w1 ⟨k, rfl⟩
      have hX : Below w.heap.size w ((w.alloc (.cells #[.int .i64 f, .int .i64 (-9223372036854775808)] 41)).drewN k) := below_drewN ((Below.refl _ w).alloc (Nat.le_refl _) _) _
      refine wpList_mapUpdate_own _ rfl _ _ _ 29 rfl 3 41 int_key Try.underlying29 gElem m n D rfl (HDX.out _ hX) (by unfold maxLen; omega) _ _ (gkey s) rfl rfl hkey.out _ [] (gElem_mk f (-9223372036854775808)) ?_
      intro w2 ho hg
      have HQ := Lib.hid (HP.out _ _ hX ho hg)
      clear ho hg hX HP HDX
      go_wp2_with fail
      go_ret
      exact ⟨rfl, HQ.out.1, HQ.out.2⟩
    · rw [if_neg hfe]
      have t1 : (f == e) = false := by simp only [beq_eq_false_iff_ne, ne_eq]; exact hfe
      clear h hg
      go_enter Try.func9, Try.ntmps9
      go_wp2_with fail
      refine HN.out.mono ?_
      rintro x w1 ⟨rfl, rfl⟩
      go_wp2_with (first | (at_lookup; refine wpList_lookup_known rfl _ _ _ _ rfl _ _ _ rfl rfl HL.out ?_))
      go_ret
      exact ⟨rfl, (HBk.out.below ((Below.refl _ w).alloc (Nat.le_refl _) _)).more (Nat.le_succ n), below_foot ((Below.refl _ w).alloc (Nat.le_refl _) _)⟩
set_option maxRecDepth 100000 in
set_option maxHeartbeats 2000000 in
theorem newBk_any (now : Int) (r : Bool) (ht : -9223372036854775808 ≤ now) (w : World) : Calls Try.prog 11 #[.int .i64 now, .bool r] w fun x w' =>
    x = .returned (.pointer (some ⟨w.heap.size + 1, 0, none⟩)) ∧ IsBk w' (w.heap.size + 1) w.heap.size 0 (Lea.new now r) ∧ Below w.heap.size w w' := by
  have HEnd := Lib.hid (fun X => end_any now ht X)
  have hG := Lib.hid (Lea.Good.new ht r)
  have hb : ∀ g : Int, Below w.heap.size w ((w.alloc (.map #[] 0)).alloc (.cells #[.int .i64 g, .map (some w.heap.size)] 31)) := fun g => ((Below.refl _ w).alloc (Nat.le_refl _) _).alloc (by simp) _
  have hI : ∀ g : Int, ∀ B : Lea.Bk, B.grace = g → B.g = (fun _ => none) → Lea.Good B → IsBk ((w.alloc (.map #[] 0)).alloc (.cells #[.int .i64 g, .map (some w.heap.size)] 31)) (w.heap.size + 1) w.heap.size 0 B := by
    intro g B h1 h2 h3
    refine ⟨?_, ⟨.map [], (World.ownsMap_made w _ _ _).alloc _, ?_⟩, h3⟩
    · rw [h1]
      have := heap_alloc_new (w.alloc (.map #[] 0)) (.cells #[.int .i64 g, .map (some w.heap.size)] 31)
      simpa using this
    · rw [h2]; exact says_none
  replace hb := Lib.hid hb
  replace hI := Lib.hid hI
  have hmk := map_run0
  cases r with
  | false =>
    go_enter Try.func11, Try.ntmps11
    go_wp2_with fail
    go_ret
    exact ⟨rfl, hI.out _ _ rfl rfl hG.out, hb.out _⟩
  | true =>
    have hov := Lib.hid (show (Lea.new now true).grace = Lea.over now from rfl)
    generalize Lea.over now = u at *
    go_enter Try.func11, Try.ntmps11
    go_wp2_with fail
    refine (HEnd.out _).mono ?_
    rintro x w1 ⟨rfl, rfl⟩
    go_wp2_with fail
    go_ret
    exact ⟨rfl, hI.out _ _ hov.out rfl hG.out, hb.out _⟩
end
end Go.Proofs.Ytopdjmjlnflhfaa
