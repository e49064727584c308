/-
  The document's clocks in memory; the contracts of its At, Skew, Tick, New.
-/
import Derived.Test.YtljlighgjjiagaaKTick
namespace Go.Proofs.Ytljlighgjjiagaa
open Go.RowKit
/-- The pointer r holds the document's clocks, whose numbers lie in the block g. -/
structure IsR (w : World) (r g : Nat) (C : Clo.Cs) : Prop where
  head : w.heap[r]? = some (.cells #[.slice (some ⟨g, 0, none⟩) C.l.length C.l.length, .int .i64 C.w] 34 (0, 0))
  row : w.heap[g]? = some (.cells (C.l.map (Value.int .i64)).toArray 3 (0, 0))
  rg : r ≠ g
  good : Clo.Good C
theorem IsR.lt {w : World} {r g : Nat} {C : Clo.Cs} (h : IsR w r g C) : r < w.heap.size ∧ g < w.heap.size := ⟨lt_of_block h.head, lt_of_block h.row⟩
theorem IsR.drewN {w : World} {r g : Nat} {C : Clo.Cs} (h : IsR w r g C) (m : Nat) : IsR (w.drewN m) r g C := ⟨h.head, h.row, h.rg, h.good⟩
theorem IsR.foot {w w' : World} {r g : Nat} {C : Clo.Cs} {S : Nat → Prop} (h : IsR w r g C) (hb : Foot S w w') (hr : ¬ S r) (hg : ¬ S g) : IsR w' r g C := ⟨hb.kept h.head hr, hb.kept h.row hg, h.rg, h.good⟩
theorem IsR.below {w w' : World} {r g : Nat} {C : Clo.Cs} (h : IsR w r g C) (hb : Below w.heap.size w w') : IsR w' r g C := h.foot (below_foot hb : Foot (fun _ => False) w w') (fun e => e) fun e => e
theorem IsR.l {w : World} {r g : Nat} {C : Clo.Cs} (h : IsR w r g C) : w.cell? ⟨r, 0, none⟩ = some (.slice (some ⟨g, 0, none⟩) C.l.length C.l.length) := by
  rw [cell_of_row w r _ _ _ _ h.head]; rfl
theorem IsR.w {w : World} {r g : Nat} {C : Clo.Cs} (h : IsR w r g C) : w.cell? ⟨r, 1, none⟩ = some (.int .i64 C.w) := by
  rw [cell_of_row w r _ _ _ _ h.head]; rfl
theorem IsR.at_ {w : World} {r g : Nat} {C : Clo.Cs} (h : IsR w r g C) {i : Nat} (hi : i < C.l.length) : w.cell? ⟨g, i, none⟩ = some (.int .i64 (C.l.getD i 0)) := by
  rw [cell_of_row w g _ _ _ _ h.row]
  simp [List.getD, hi]
theorem IsR.frozen {w : World} {r g : Nat} {C : Clo.Cs} (h : IsR w r g C) (o : Nat) : w.frozen? ⟨r, o, none⟩ = false ∧ w.frozen? ⟨g, o, none⟩ = false := ⟨frozen_of_row w r o _ _ h.head, frozen_of_row w g o _ _ h.row⟩
set_option maxRecDepth 100000 in
set_option maxHeartbeats 1000000 in
theorem rat_any {w : World} {r g : Nat} {C : Clo.Cs} (s : Int) (h : IsR w r g C) : Calls Try.prog 17 #[.pointer (some ⟨r, 0, none⟩), .int .i64 s] w fun e w' => e = .returned (.tuple #[.int .i64 (Clo.at_ C s).1, .int .i64 (Clo.at_ C s).2]) ∧ w = w' := by
  have c0 := h.l
  have hn := h.good.n7
  rcases Clo.site_split s C.l.length with ⟨i, rfl, hi⟩ | hs
  · have ci := h.at_ hi
    have HE := Lib.hid (Clo.at_ok hi)
    generalize C.l.getD i 0 = y at *
    generalize C.l.length = n at *
    clear h
    go_enter Try.func17, Try.ntmps17
    go_wp2
    go_ret2
    exact ⟨by rw [HE.out]; rfl, rfl⟩
  · have HE := Lib.hid (Clo.at_no hs)
    have hs' : s < 0 ∨ (0 ≤ s ∧ (C.l.length : Int) ≤ s) := by omega
    generalize C.l.length = n at *
    clear h hs
    rcases hs' with g | ⟨g, g'⟩
    · go_enter Try.func17, Try.ntmps17
      go_wp2
      go_ret2
      exact ⟨by rw [HE.out]; rfl, rfl⟩
    · go_enter Try.func17, Try.ntmps17
      go_wp2
      go_ret2
      exact ⟨by rw [HE.out]; rfl, rfl⟩
set_option maxRecDepth 100000 in
set_option maxHeartbeats 1000000 in
theorem rskew_any {w : World} {r g : Nat} {C : Clo.Cs} (h : IsR w r g C) : Calls Try.prog 14 #[.pointer (some ⟨r, 0, none⟩)] w fun e w' => e = .returned (.int .i64 (Clo.skew C.l)) ∧ ∃ n, w' = w.drewN n := by
  have hn2 := h.good.n2
  have HA := Lib.hid (fun i (hi : i < C.l.length) => And.intro (h.at_ hi) (h.good.at_ hi))
  have c0 := h.l
  have HK := Lib.hid (fun (n : Int) (a b : Nat) (ha : a < C.l.length) (hb : b < C.l.length) (e : n = C.l.getD a 0 - C.l.getD b 0) hx => Clo.skew_is ha hb e hx)
  have hn := h.good.n7
  obtain ⟨l, hl⟩ : ∃ l, C.l = l := ⟨_, rfl⟩
  rw [hl] at HA c0 HK hn hn2 ⊢
  clear h hl
  go_enter Try.func14, Try.ntmps14
  go_wp2
  go_loopw [3, 4] (fun q iv wr => ∃ (n : Int) (i m : Nat), i ≤ l.length ∧ q = .int .i64 n ∧ iv = .int .i64 i ∧ 0 ≤ n ∧ n ≤ 1073741824 ∧ Hid (∃ a b, a < l.length ∧ b < l.length ∧ n = l.getD a 0 - l.getD b 0) ∧ Hid (∀ a b, a < i → b < l.length → l.getD a 0 - l.getD b 0 ≤ n) ∧ wr = w.drewN m) (fun _ i _ => l.length - (intOf i).toNat)
  case atStart => exact ⟨0, 0, 0, Nat.zero_le _, rfl, rfl, by omega, by omega, Lib.hid ⟨0, 0, by omega, by omega, by omega⟩, Lib.hid fun a b ha => by omega, rfl⟩
  case round =>
    obtain ⟨n, i, m, hi, rfl, rfl, hn0, hn1, HX, HY, rfl⟩ := hrel
    by_cases hlt : i < l.length
    · go_wp2
      go_loopw [3, 5] (fun q kv wx => ∃ (n' : Int) (k m' : Nat), k ≤ l.length ∧ q = .int .i64 n' ∧ kv = .int .i64 k ∧ 0 ≤ n' ∧ n' ≤ 1073741824 ∧ n ≤ n' ∧ Hid (∃ a b, a < l.length ∧ b < l.length ∧ n' = l.getD a 0 - l.getD b 0) ∧ Hid (∀ b, b < k → l.getD i 0 - l.getD b 0 ≤ n') ∧ wx = w.drewN m') (fun _ k _ => l.length - (intOf k).toNat)
      case atStart => exact ⟨n, 0, m, Nat.zero_le _, rfl, rfl, hn0, hn1, Int.le_refl _, HX, Lib.hid fun b hb => by omega, rfl⟩
      case round =>
        obtain ⟨n', k, m', hk, rfl, rfl, hn0', hn1', hnn, HX', HY', rfl⟩ := hrel
        by_cases hlt' : k < l.length
        · obtain ⟨ci, gi⟩ := HA.out i hlt
          obtain ⟨ck, gk⟩ := HA.out k hlt'
          obtain ⟨x, hx⟩ : ∃ x, l.getD i 0 = x := ⟨_, rfl⟩
          obtain ⟨y, hy⟩ : ∃ y, l.getD k 0 = y := ⟨_, rfl⟩
          rw [hx] at ci gi
          rw [hy] at ck gk
          have HXi := Lib.hid hx
          have HYk := Lib.hid hy
          clear hx hy
          have HM : Hid (∃ a b, a < l.length ∧ b < l.length ∧ max n' (x - y) = l.getD a 0 - l.getD b 0) := by
            refine Lib.hid ?_
            rcases Int.le_total n' (x - y) with g | g
            · rw [Int.max_eq_right g]; exact ⟨i, k, hlt, hlt', by rw [HXi.out, HYk.out]⟩
            · rw [Int.max_eq_left g]; exact HX'.out
          have HN : Hid (∀ b, b < k + 1 → l.getD i 0 - l.getD b 0 ≤ max n' (x - y)) := by
            refine Lib.hid fun b hb => ?_
            by_cases hbk : b < k
            · have := HY'.out b hbk; omega
            · obtain rfl : b = k := by omega
              rw [HXi.out, HYk.out]; omega
          have hw : IntKind.i64.wrap (x - y) = x - y := IntWalk.i64_in _ (by omega)
          go_wp2
          go_quiet (fail)
          go_wp2
          go_roundw
          case rel => exact ⟨max n' (x - y), k + 1, _, by omega, by go_num, by go_num, by omega, by omega, by omega, HM, HN, rfl⟩
          case measure => simp [intOf]; omega
        · obtain rfl : k = l.length := by omega
          go_wp2
          go_roundw
          case rel =>
            refine ⟨n', i + 1, m', by omega, rfl, by go_num, by omega, by omega, HX', Lib.hid fun a b ha hb => ?_, rfl⟩
            by_cases hai : a < i
            · have := HY.out a b hai hb; omega
            · obtain rfl : a = i := by omega
              exact HY'.out b hb
          case measure => simp [intOf]; omega
    · obtain rfl : i = l.length := by omega
      obtain ⟨a, b, ha, hb, e⟩ := HX.out
      have HE := Lib.hid (HK.out n a b ha hb e fun i k hi hk => HY.out i k hi hk)
      go_wp2
      go_ret
      exact ⟨by rw [HE.out]; rfl, _, rfl⟩
end Go.Proofs.Ytljlighgjjiagaa
