/-
  The walk of the law EpochsMost.
-/
import Derived.Test.YtmdchepmojlbbaaRows
import Derived.Test.YtmdchepmojlbbaaESame
import Derived.ArgAppend
namespace Go.Proofs.Ytmdchepmojlbbaa.epochsMostW
open Go.RowKit
theorem ints_one (l : List Int) : ∀ x ∈ l.map (Value.int .i64), x.oneCell' = true := fun x hx => by
  obtain ⟨n, _, rfl⟩ := List.mem_map.1 hx; rfl
theorem row_cells {w : World} {base g L : Nat} {l : List Int} (hl : l.length ≤ 1000000) (hL : l.length = L) (h : w.ownsRow base 3 1 (.slice (some ⟨g, 0, none⟩) (L + 1) (L + 1)) (L + 1) (l.map (Value.int .i64) ++ [.int .i64 (-70)])) :
    Ints w (.slice (some ⟨g, 0, none⟩) L (L + 1)) l ∧ w.cell? ⟨g, L, none⟩ = some (.int .i64 (-70)) ∧ g < w.heap.size := by
  have hc := fun j (hj : j < L + 1) => World.ownsRow.cellAt h j (by omega)
  have h1 : w.cell? ⟨g, L, none⟩ = some (.int .i64 (-70)) := by rw [hc L (by omega)]; simp [hL]
  have hg : g < w.heap.size := World.block_lt_of_cell? w _ h1
  have hm : L + 1 ≤ maxLen := Nat.le_trans (show L + 1 ≤ 1000001 by omega) (by decide)
  refine ⟨⟨_, L + 1, by rw [hL], by omega, hm, fun e => (by cases e), fun _ => ⟨g, 0, rfl, hg, fun j hj => ?_⟩⟩, h1, hg⟩
  rw [Nat.zero_add, hc j (by omega), List.getElem?_append_left (by simpa using hj)]
  simp [hj]
theorem src_cells {w w1 : World} {A : Option Addr} {l : List Int} {cv : Nat} (hi : Ints w (.slice A l.length cv) l) (hb : Below w.heap.size w w1) :
    ∀ ad, A = some ad → ∀ j u, (l.map (Value.int .i64))[j]? = some u → w1.cell? (ad.add j) = some u := by
  intro ad had j u hu
  have hj : j < l.length := by
    have := (List.getElem?_eq_some_iff.1 hu).1
    simpa using this
  obtain ⟨A', c', h1, _, _, _, h3⟩ := hi
  injection h1 with h1 _ _
  subst h1
  obtain ⟨b, off, h4, h5, h6⟩ := h3 (by omega)
  obtain rfl := Option.some.inj (had.symm.trans h4)
  rw [Addr.add_lit, hb.cell (p := ⟨b, off + j, none⟩) h5, h6 j hj, ← hu]
  simp [List.getD, hj]
theorem one_cell (w : World) : ∀ j u, [Value.int .i64 (-70)][j]? = some u → (w.alloc (.cells #[.int .i64 (-70)] 3)).cell? ((⟨w.heap.size, 0, none⟩ : Addr).add j) = some u := by
  intro j u hu
  have hj : j < 1 := by
    have := (List.getElem?_eq_some_iff.1 hu).1
    simpa using this
  obtain rfl : j = 0 := by omega
  simp at hu; subst hu; simp [go_sem, Addr.add]
set_option maxRecDepth 100000 in
set_option maxHeartbeats 2000000 in
theorem walk_near (A : Option Addr) (cv : Nat) (l : List Int) (n : Int) (w : World) (hl : l.length ≤ 100) (hi : Ints w (.slice A l.length cv) l) :
    Calls Try.prog 4 #[.slice A l.length cv, .int .i64 n] w fun e w' => e = .returned (.bool true) ∧ Below w.heap.size w w' := by
  obtain ⟨i0, hi0, hz0, hz1, hz2⟩ := info_parts infoInt
  have HI := Lib.hid hi
  have HN : Hid (A = none → l.length = 0 ∧ cv = 0) := by
    obtain ⟨_, _, h1, _, _, h2, _⟩ := hi
    injection h1 with h1 _ h3
    subst h1 h3
    exact h2
  have HCV : Hid (l.length ≤ cv) := by
    obtain ⟨_, _, h1, h2, _⟩ := hi
    injection h1 with _ _ h1
    subst h1
    exact h2
  have q1 : decide ((100 : Int) < (l.length : Int)) = false := decide_eq_false (by omega)
  have HBY : Hid (i0.bytes * (l.length + 1) ≤ 281474976710656) := by show _ ≤ _; rw [hz2]; omega
  clear hi
  go_enter Try.func4, Try.ntmps4
  go_wp2_with (first
    | (at_make; refine wpList_make_own _ rfl _ _ 29 rfl w.heap.size 3 i0 (.int .i64 0) 1 Try.underlying29 hi0 hz0 hz1 .i64 .i64 ((l.length : Int) + 1) (l.length + 1) rfl rfl (by omega) HBY.out (by unfold maxLen; omega) (Nat.le_refl _) ?_; intro w1 hown1 hgrow1; have hb1 : Below w.heap.size w w1 := (Below.refl _ _).grown hgrow1 (Nat.le_refl _) (fun k hk => by cases hk))
    | (at_builtin; refine wpList_append_fits_any _ rfl _ _ 29 rfl w.heap.size 3 i0 1 Try.underlying29 hi0 hz1 w.heap.size 0 (l.length + 1) [] rfl hown1 A l.length cv (l.map (Value.int .i64)) rfl (by simp) HN.out (src_cells HI.out hb1) (ints_one _) (by omega) ?_; intro w2 hown2 hgrow2; simp only [Nat.zero_add, List.nil_append] at hown2; have hb2 := hb1.grown hgrow2 hb1.size (fun k hk => by cases hk; exact Nat.le_refl _))
    | (at_builtin; refine wpList_append_fits _ rfl _ _ 29 rfl w.heap.size 3 i0 1 Try.underlying29 hi0 hz1 w.heap.size l.length (l.length + 1) (l.map (Value.int .i64)) rfl (World.ownsRow.alloc hown2 _) ⟨w2.heap.size, 0, none⟩ 1 1 [.int .i64 (-70)] rfl rfl (one_cell _) (fun x hx => by simp at hx; subst hx; rfl) (by omega) ?_; intro w3 hown3 hgrow3; have hb3 := (hb2.alloc hb2.size (.cells #[.int .i64 (-70)] 3)).grown hgrow3 (Nat.le_trans hb2.size (by simp)) (fun k hk => by cases hk; exact Nat.le_refl _)))
  obtain ⟨ri, rc1, rg⟩ := row_cells (by omega) rfl hown3
  have RI := Lib.hid ri
  have RC1 := Lib.hid rc1
  clear ri rc1 hown1 hown2 hown3 hgrow1 hgrow2 hgrow3 hb1 hb2 HBY
  refine (most_any _ l n _ RI.out).mono ?_
  rintro e w4 ⟨rfl, hb4⟩
  have h04 := hb3.trans (hb4.mono hb3.size)
  unfold mostV
  go_wp2_with fail
  refine (rmost_any _ l n _ (HI.out.below h04)).mono ?_
  rintro e w5 ⟨rfl, hb5⟩
  have h05 := h04.trans (hb5.mono h04.size)
  have h35 := hb4.trans (hb5.mono hb4.size)
  unfold mostV
  generalize (Epo.most l n).1 = m at *
  generalize (Epo.most l n).2 = ok at *
  go_wp2_with fail
  refine (same_any _ _ l _ (RI.out.below h35) (HI.out.below h05) (by omega)).mono ?_
  rintro e w6 ⟨rfl, hs6⟩
  have h06 := h05.trans (hs6.mono h05.size)
  have h36 := h35.trans (hs6.mono h35.size)
  have c1 := (h36.cell (p := ⟨w.heap.size, l.length, none⟩) rg).trans RC1.out
  clear hb3 hb4 hb5 h04 h05 h35 h36 hs6 hi0 hz0 hz1 hz2
  go_wp2_with fail
  clear c1
  refine (works_any _).mono ?_
  rintro e w7 ⟨rfl, hb7⟩
  go_wp2_with fail
  go_ret
  exact ⟨rfl, h06.trans (hb7.mono h06.size)⟩
set_option maxRecDepth 100000 in
theorem walk (A : Option Addr) (cv : Nat) (l : List Int) (n : Int) (w : World) (hi : Ints w (.slice A l.length cv) l) (_ : (Lit.int .i64 n).wf = true) :
    Calls Try.prog 4 #[.slice A l.length cv, .int .i64 n] w fun e w' => e = .returned (.bool true) ∧ Below w.heap.size w w' := by
  by_cases hl : l.length ≤ 100
  · exact walk_near A cv l n w hl hi
  · have q1 : decide ((100 : Int) < (l.length : Int)) = true := decide_eq_true (by omega)
    clear hi
    go_enter Try.func4, Try.ntmps4
    go_wp2_with fail
    go_ret
    exact ⟨rfl, Below.refl _ _⟩
end Go.Proofs.Ytmdchepmojlbbaa.epochsMostW
