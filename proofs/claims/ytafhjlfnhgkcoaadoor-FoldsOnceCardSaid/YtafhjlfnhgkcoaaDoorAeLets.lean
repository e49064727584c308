/-
  behind of package deeds, whole: whether the event may come to the state, and the state behind it.
-/
import Derived.Test.YtafhjlfnhgkcoaaDoorAeBeh2
namespace Go.Proofs.YtafhjlfnhgkcoaaDoor
open Go.RowKit Go.Sort
/-- What behind tells: whether the event may come, and then the state behind it. -/
def LetPost (s : St) (ev : Ev) (w : World) (e : Ending) (w' : World) : Prop := ∃ n : St, e = .returned (.tuple #[n.v, .bool (lets s ev)]) ∧ (lets s ev = true → n = next s ev) ∧ Below w.heap.size w w'
theorem cntS_next {s : St} {ev : Ev} (hm : s.may = true) (h : letC s ev = true) (hc : s.cl = false) : (⟨(cntS s ev).tag, (cntS s ev).cl, (cntS s ev).sum, s.ver + 1⟩ : St) = next s ev := by
  have hm := (may_iff _).1 hm
  have h := (letC_iff _ _).1 h
  obtain ⟨t, c, x, v⟩ := s
  obtain ⟨k, a⟩ := ev
  simp only [cntS, next] at *
  have hx : -1099511627776 ≤ x ∧ x ≤ 1099511627776 := by omega
  rcases h with ⟨hk, h1, h2⟩ | ⟨hk, h1, h2⟩ | ⟨hk, h1, h2⟩
  · subst hk; simp [wrap_in (z := x + a) (by omega) (by omega)]
  · subst hk; simp [wrap_in (z := x - a) (by omega) (by omega)]
  · subst hk; simp
theorem beh_any (s : St) (ev : Ev) (w : World) : Calls Tryd.prog 26 #[s.v, ev.v] w (LetPost s ev w) := by
  have HG := Lib.hid (fun X => maybe_any s X)
  by_cases hm : s.may = true
  · have hl : lets s ev = comes s ev := by unfold lets; rw [hm]; rfl
    rw [hm] at HG
    have hm' := (may_iff _).1 hm
    have hci := comes_iff s ev
    have hli := letC_iff s ev
    obtain ⟨t, c, x, v⟩ := s
    obtain ⟨k, a⟩ := ev
    simp only [St.v, Ev.v] at HG ⊢
    simp only at hm' hci hli
    cases c
    · by_cases hv : v = 1099511627776
      · subst hv
        have hf : lets ⟨t, false, x, 1099511627776⟩ ⟨k, a⟩ = false := by rw [hl]; cases h : comes ⟨t, false, x, 1099511627776⟩ ⟨k, a⟩ <;> simp [h] at hci ⊢
        refine (beh_top t x k a w HG).mono fun e w' h => ⟨⟨0, false, 0, 0⟩, by rw [hf]; exact h.1, fun h' => absurd h' (by rw [hf]; decide), h.2⟩
      · have hv0 : 0 ≤ v := by omega
        have hv1 : v < 1099511627776 := by omega
        have hv2 : (v == 1099511627776) = false := by simp [hv]
        by_cases t0 : t = 0
        · subst t0
          by_cases ha : 1 ≤ a ∧ a ≤ 3
          · obtain ⟨V, hV⟩ : ∃ V, aggV a = .tuple #[V, .bool true] := by
              have : a = 1 ∨ a = 2 ∨ a = 3 := by omega
              rcases this with rfl | rfl | rfl <;> exact ⟨_, rfl⟩
            by_cases hk : k = 1
            · subst hk
              have hf : lets ⟨0, false, x, v⟩ ⟨1, a⟩ = true := by rw [hl]; exact hci.2 ⟨hv1, rfl, .inl ⟨rfl, rfl, ha⟩⟩
              refine (beh_o x v 1 a a false x true w HG (Lib.hid fun X => open_yes 0 false x v a V X hV) hv0 hv1 hv2).mono fun e w' h => ⟨⟨a, false, x, v + 1⟩, by rw [hf]; exact h.1, fun _ => rfl, h.2⟩
            · have hf : lets ⟨0, false, x, v⟩ ⟨k, a⟩ = false := by rw [hl]; cases h : comes ⟨0, false, x, v⟩ ⟨k, a⟩ <;> simp [h] at hci ⊢; omega
              refine (beh_o x v k a a false x false w HG (Lib.hid fun X => open_k 0 false x v k a V X hV (by simp [hk])) hv0 hv1 hv2).mono fun e w' h => ⟨⟨a, false, x, v + 1⟩, by rw [hf]; exact h.1, fun h' => absurd h' (by rw [hf]; decide), h.2⟩
          · have hV : aggV a = .tuple #[.nilIface, .bool false] := by unfold aggV; rw [if_neg (by omega), if_neg (by omega), if_neg (by omega)]
            have hf : lets ⟨0, false, x, v⟩ ⟨k, a⟩ = false := by rw [hl]; cases h : comes ⟨0, false, x, v⟩ ⟨k, a⟩ <;> simp [h] at hci ⊢; omega
            refine (beh_o x v k a a false x false w HG (Lib.hid fun X => open_no 0 false x v k a .nilIface X hV) hv0 hv1 hv2).mono fun e w' h => ⟨⟨a, false, x, v + 1⟩, by rw [hf]; exact h.1, fun h' => absurd h' (by rw [hf]; decide), h.2⟩
        have hx : -1099511627776 ≤ x ∧ x ≤ 1099511627776 := by omega
        have C := fun X => cnt_any ⟨t, false, x, v⟩ ⟨k, a⟩ X hx.1 hx.2
        have hn := fun h => cntS_next (s := ⟨t, false, x, v⟩) (ev := ⟨k, a⟩) hm h rfl
        have ht : t = 1 ∨ t = 2 ∨ t = 3 := by omega
        rcases ht with rfl | rfl | rfl
        · have hf : lets ⟨1, false, x, v⟩ ⟨k, a⟩ = letC ⟨1, false, x, v⟩ ⟨k, a⟩ := by rw [hl, Bool.eq_iff_iff, hci, hli]; simp; omega
          refine (beh_c x v k a _ _ _ _ w HG (Lib.hid C) hv0 hv1 hv2).mono fun e w' h => ⟨_, by rw [hf]; exact h.1, fun h' => hn (hf ▸ h'), h.2⟩
        · have hs : (cntS ⟨2, false, x, v⟩ ⟨k, a⟩).sum = if k = 2 then wrap64 (x + a) else if k = 3 then wrap64 (x - a) else x := rfl
          have hf : lets ⟨2, false, x, v⟩ ⟨k, a⟩ = (letC ⟨2, false, x, v⟩ ⟨k, a⟩ && decide (0 ≤ (cntS ⟨2, false, x, v⟩ ⟨k, a⟩).sum)) := by
            rw [hl, Bool.eq_iff_iff, hci, Bool.and_eq_true, hli, decide_eq_true_iff, hs]
            have w1 := fun h0 h1 => wrap_in (z := x + a) h0 h1
            have w2 := fun h0 h1 => wrap_in (z := x - a) h0 h1
            constructor
            · rintro ⟨-, -, h⟩
              rcases h with h | ⟨hk, -, h1, h2⟩ | ⟨hk, h1, h⟩ | ⟨hk, -, h1, h2⟩
              · exact absurd h.2.1 (by decide)
              · subst hk; rw [if_pos rfl, w1 (by omega) (by omega)]; exact ⟨.inl ⟨rfl, h1, h2⟩, by omega⟩
              · subst hk; rw [if_neg (by decide), if_pos rfl, w2 (by omega) (by omega)]; exact ⟨.inr (.inl ⟨rfl, h1, by omega⟩), by omega⟩
              · subst hk; rw [if_neg (by decide), if_neg (by decide)]; exact ⟨.inr (.inr ⟨rfl, h1, h2⟩), by omega⟩
            · rintro ⟨h, h0⟩
              refine ⟨hv1, rfl, ?_⟩
              rcases h with ⟨hk, h1, h2⟩ | ⟨hk, h1, h2⟩ | ⟨hk, h1, h2⟩
              · exact .inr (.inl ⟨hk, by decide, h1, h2⟩)
              · subst hk; rw [if_neg (by decide), if_pos rfl, w2 (by omega) (by omega)] at h0; exact .inr (.inr (.inl ⟨rfl, h1, .inr ⟨rfl, h0⟩⟩))
              · exact .inr (.inr (.inr ⟨hk, by decide, h1, h2⟩))
          cases hc : letC ⟨2, false, x, v⟩ ⟨k, a⟩
          · rw [hc] at C hf
            rw [Bool.false_and] at hf
            refine (beh_p x v k a _ _ _ _ w HG (Lib.hid fun X => pur_no 2 false x v k a _ _ _ _ X (Lib.hid C)) hv0 hv1 hv2).mono fun e w' h => ⟨⟨_, _, _, v + 1⟩, by rw [hf]; exact h.1, fun h' => absurd h' (by rw [hf]; decide), h.2⟩
          · rw [hc] at C hf
            rw [Bool.true_and] at hf
            refine (beh_p x v k a _ _ _ _ w HG (Lib.hid fun X => pur_yes 2 false x v k a _ _ _ _ X _ rfl (Lib.hid C)) hv0 hv1 hv2).mono fun e w' h => ⟨_, by rw [hf]; exact h.1, fun _ => hn hc, h.2⟩
        · by_cases hk : k = 3
          · subst hk
            have hf : lets ⟨3, false, x, v⟩ ⟨3, a⟩ = false := by rw [hl]; cases h : comes ⟨3, false, x, v⟩ ⟨3, a⟩ <;> simp [h] at hci ⊢
            refine (beh_t x v 3 a _ _ _ _ w HG (Lib.hid fun X => tal_take 3 false x v a X) hv0 hv1 hv2).mono fun e w' h => ⟨⟨3, false, x, v + 1⟩, by rw [hf]; exact h.1, fun h' => absurd h' (by rw [hf]; decide), h.2⟩
          · have hf : lets ⟨3, false, x, v⟩ ⟨k, a⟩ = letC ⟨3, false, x, v⟩ ⟨k, a⟩ := by rw [hl, Bool.eq_iff_iff, hci, hli]; simp; omega
            refine (beh_t x v k a _ _ _ _ w HG (Lib.hid fun X => tal_rest 3 false x v k a _ _ _ _ X (by simp [hk]) _ (Lib.hid C)) hv0 hv1 hv2).mono fun e w' h => ⟨_, by rw [hf]; exact h.1, fun h' => hn (hf ▸ h'), h.2⟩
    · have hf : lets ⟨t, true, x, v⟩ ⟨k, a⟩ = false := by rw [hl]; cases h : comes ⟨t, true, x, v⟩ ⟨k, a⟩ <;> simp [h] at hci ⊢
      refine (beh_closed t x v k a w HG).mono fun e w' h => ⟨⟨0, false, 0, 0⟩, by rw [hf]; exact h.1, fun h' => absurd h' (by rw [hf]; decide), h.2⟩
  · have hm0 : s.may = false := by simpa using hm
    rw [hm0] at HG
    have hf : lets s ev = false := by unfold lets; rw [hm0]; rfl
    obtain ⟨t, c, x, v⟩ := s
    obtain ⟨k, a⟩ := ev
    refine (beh_bad t c x v k a w HG).mono fun e w' h => ⟨⟨0, false, 0, 0⟩, by rw [hf]; exact h.1, fun h' => absurd h' (by rw [hf]; decide), h.2⟩
theorem results_cell1 {fn : Func} {p : Tmp} {ty : TypeId} (h : fn.results = #[.cell p ty]) (tmps : Array Value) (P : Program) (w : World) :
    (results fn tmps).run P w = ((asAddr (tmps.getD p undef)).run P w).andThen fun a w₁ => (loadVar ty a).run P w₁ := by
  simp only [results, h]
  simp [Sem.run_bind, Result.andThen]
end Go.Proofs.YtafhjlfnhgkcoaaDoor
