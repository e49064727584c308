/-
  The walk of the law ListsSeals: it returns true and writes nothing that was there.
-/
import Derived.Test.YtffjijgmjbhhoaaLsWorks
import Derived.Test.YtffjijgmjbhhoaaLsRSeals
namespace Go.Proofs.Ytffjijgmjbhhoaa.listsSealsW
open Go.RowKit Go.Sort
/-- A row of the call's own, of so many ints, whichever they are. -/
def RowAny (w : World) (base : Nat) (A : Option Addr) (n c : Nat) : Prop := ∃ xs, w.ownsRow base 3 1 (.slice A n c) n xs
theorem RowAny.at_ {w : World} {base : Nat} {A : Option Addr} {n c k : Nat} (h : RowAny w base A n c) (hk : k < n) :
    ∃ g u, A = some ⟨g, 0, none⟩ ∧ base ≤ g ∧ w.cell? ⟨g, k, none⟩ = some u ∧ w.frozen? ⟨g, k, none⟩ = false ∧ RowAny (w.setCell ⟨g, k, none⟩ (.int .i64 (-9))) base A n c := by
  obtain ⟨xs, ho⟩ := h
  rcases ho.2 with ⟨h1, h2⟩ | ⟨g, cap, _, h1, h2, _⟩
  · omega
  · injection h1 with h1 _ h3
    subst h1 h3
    have hl := ho.1
    have hx : k < xs.length := by omega
    have hc := World.ownsRow.cellAt ho k (by omega)
    rw [List.getElem?_eq_getElem hx] at hc
    exact ⟨g, _, rfl, h2, hc, World.ownsRow.frozenAt ho k, _, (World.ownsRow.stored ho k (.int .i64 (-9))).1⟩
theorem row_other {w : World} {base n : Nat} {v : Value} {xs : List Value} {g j : Nat} {u : Value} (h : w.ownsRow base 3 1 v n xs) (hg : g < base) : (w.setCell ⟨g, j, none⟩ u).ownsRow base 3 1 v n xs :=
  World.ownsRow.kept (row := some g) h ⟨rfl, rfl, rfl, by simp [World.setCell], fun k _ hk => Below.heap_setCell _ _ _ _ (fun e => hk (by simp [e]))⟩ (by
    rcases hv : v.ownBlock with _ | g'
    · exact .inl rfl
    · refine .inr fun e => ?_
      have := (World.ownsRow.lt h g' hv).1
      simp at e
      omega)
theorem row_keep {w w' : World} {base n : Nat} {v : Value} {xs : List Value} (h : w.ownsRow base 3 1 v n xs) (hb : Below w.heap.size w w') : w'.ownsRow base 3 1 v n xs :=
  World.ownsRow.kept (row := none) h ⟨hb.os, hb.tape, hb.output, hb.size, fun k hk _ => hb.block k hk⟩ (by
    rcases hv : v.ownBlock with _ | g
    · exact .inl rfl
    · exact .inr (by simp))
set_option maxRecDepth 100000 in
set_option maxHeartbeats 4000000 in
theorem walk (A : Option Addr) (c : Nat) (es : List En) (w : World) (ha : EsB w.heap.size w (.slice A es.length c) es) : Calls Try.prog 5 #[.slice A es.length c] w (fun e w' => e = .returned (.bool true) ∧ Below w.heap.size w w') := by
  by_cases hn : 2000 < es.length
  · have t2 : (2000 : Int) < (es.length : Int) := by omega
    clear ha
    generalize es.length = n at *
    go_enter Try.func5, Try.ntmps5
    go_wp2_with fail
    go_ret
    exact ⟨rfl, Below.refl _ _⟩
  · have t2 : ¬ (2000 : Int) < (es.length : Int) := by omega
    have h20 : es.length ≤ 2000 := by omega
    have HA : Hid (∀ X : World, Below w.heap.size w X → EsB w.heap.size X (.slice A es.length c) es) := Lib.hid fun X hX => RdB.below ha hX (Nat.le_refl _)
    clear ha
    go_enter Try.func5, Try.ntmps5
    go_wp2_with fail
    refine (twin_any (HA.out w (Below.refl _ _)) (Nat.le_refl _) (by omega)).mono ?_
    rintro e w1 ⟨g1, c1, rfl, hg1, hg1', hc1, hm1, he1, h71, hb1⟩
    have HE1 : Hid (∀ X : World, Below w1.heap.size w1 X → EsB w1.heap.size X (.slice (some ⟨g1, 0, none⟩) es.length c1) es ∧ X.cell? ⟨g1, es.length * 6, none⟩ = some (.int .i64 (-70))) := Lib.hid fun X hX => ⟨RdB.below he1 hX (Nat.le_refl _), (hX.cell (p := ⟨g1, _, none⟩) hg1').trans h71⟩
    clear he1 h71
    go_wp2_with fail
    refine (seals_any (HE1.out w1 (Below.refl _ _)).1 (by omega)).mono ?_
    rintro e w2 ⟨As, cs, rfl, ho2, hb2'⟩
    have hb2 := hb2'.out
    have hB2 := hb1.trans (hb2.mono hb1.size)
    clear hb2'
    have HRS : Hid (∀ X, Below w.heap.size w X → Calls Try.prog 21 #[.slice A es.length c] X (SealsPost es X)) := Lib.hid fun X hX => rseals_any (HA.out X hX) (by omega)
    have HSS : Hid (∀ X, Below w1.heap.size w1 X → Calls Try.prog 20 #[.slice (some ⟨g1, 0, none⟩) es.length c1] X (SealsPost es X)) := Lib.hid fun X hX => seals_any (HE1.out X hX).1 (by omega)
    have HR1 := Lib.hid (fun X hX => rising_any (HE1.out X hX).1)
    have HR2 := Lib.hid (fun X hX => rrising_any (HA.out X hX))
    unfold SealsPost at HRS HSS
    have hSl : (seals es).length ≤ 2000 := Nat.le_trans (sls_len es es.length) h20
    generalize risB es = rb at *
    generalize seals es = S at *
    go_wp2_with fail
    refine (HRS.out w2 hB2).mono ?_
    rintro e w3 ⟨Aw, cw, rfl, ho3, hb3'⟩
    have hb3 := hb3'.out
    have hB3 := hB2.trans (hb3.mono hB2.size)
    have hD3 := hb2.trans (hb3.mono hb2.size)
    have ho2' := Lib.hid (row_keep ho2.out hb3)
    have hlt2 := Lib.hid (World.ownsRow.lt ho2.out)
    clear hb3' ho2 HRS
    go_wp2_with fail
    refine (HR1.out w3 hD3).mono ?_
    rintro e w4 ⟨rfl, hb4⟩
    have hB4 := hB3.trans (hb4.mono hB3.size)
    have hD4 := hD3.trans (hb4.mono hD3.size)
    go_wp2_with fail
    refine (HR2.out w4 hB4).mono ?_
    rintro e w5 ⟨rfl, hb5⟩
    have hB5 := hB4.trans (hb5.mono hB4.size)
    have hD5 := hD4.trans (hb5.mono hD4.size)
    have hE5 := hb4.trans (hb5.mono hb4.size)
    have hs5 := Lib.hid (row_keep ho2'.out hE5)
    have hw5 := Lib.hid (row_keep ho3.out hE5)
    clear ho2' ho3
    go_wp2_with fail
    refine (sameInts_any (own_ints hs5.out) (own_ints hw5.out)).mono ?_
    rintro e w6 ⟨rfl, hb6⟩
    have hB6 := hB5.trans (hb6.mono hB5.size)
    have hD6 := hD5.trans (hb6.mono hD5.size)
    have hs6 := Lib.hid (row_keep hs5.out hb6)
    have hw6 := Lib.hid (row_keep hw5.out hb6)
    clear hs5 hw5
    go_wp2_with fail
    refine (left_any (RdB.mono (HE1.out w6 hD6).1 hD6.size) hc1 hm1 (HE1.out w6 hD6).2 (HA.out w6 hB6) (by omega)).mono ?_
    rintro e w7 ⟨rfl, hb7⟩
    have hB7 := hB6.trans (hb7.mono hB6.size)
    have hD7 := hD6.trans (hb7.mono hD6.size)
    have hs7 : Hid (RowAny w7 w1.heap.size As S.length cs) := Lib.hid ⟨_, row_keep hs6.out hb7⟩
    have hw7 := Lib.hid (row_keep hw6.out hb7)
    have z12 := hb2.size
    have z01 := hb1.size
    clear hs6 hw6 hb1 hb2 hb3 hb4 hb5 hb6 hb7 hB2 hB3 hB4 hB5 hB6 hD3 hD4 hD5 hD6 hE5 HR1 HR2
    go_wp2_with fail
    go_loopw [6] (fun i wr => ∃ k : Nat, k ≤ S.length ∧ i = .int .i64 k ∧ RowAny wr w1.heap.size As S.length cs ∧ Hid (wr.ownsRow w2.heap.size 3 1 (.slice Aw S.length cw) S.length (S.map (Value.int .i64))) ∧ Below w.heap.size w wr ∧ Below w1.heap.size w1 wr) (fun i _ => S.length - (intOf i).toNat)
    case atStart => exact ⟨0, Nat.zero_le _, rfl, hs7.out, hw7, hB7, hD7⟩
    case round =>
      obtain ⟨k, hk, rfl, hra, hrb, hbel, hbel1⟩ := hrel
      by_cases hlt : k < S.length
      · obtain ⟨g, u, rfl, hg1, hcl, hfz, hra'⟩ := hra.at_ hlt
        have hg2 := (hlt2.out g rfl).2
        have hrb' := Lib.hid (row_other (g := g) (j := k) (u := .int .i64 (-9)) hrb.out hg2)
        have hbel' := hbel.setCell (p := ⟨g, k, none⟩) (show w.heap.size ≤ g by omega) (.int .i64 (-9))
        have hbel1' := hbel1.setCell (p := ⟨g, k, none⟩) (show w1.heap.size ≤ g from hg1) (.int .i64 (-9))
        have HRA := Lib.hid hra'
        have hii : (k : Int) < (S.length : Int) := by omega
        clear hra hra' hrb hlt2 hs7 hw7 HSS HA HE1
        go_wp2_with fail
        go_roundw
        case rel => exact ⟨k + 1, by omega, by go_num, HRA.out, hrb', hbel', hbel1'⟩
        case measure => simp [intOf]; omega
      · have hii : ¬ (k : Int) < (S.length : Int) := by omega
        have hszr := hbel.size
        clear hra
        go_wp2_with fail
        refine (HSS.out wr hbel1).mono ?_
        rintro e w8 ⟨A8, c8, rfl, ho8, hb8'⟩
        have hb8 := hb8'.out
        have hB8 := hbel.trans (hb8.mono hszr)
        have hrb8 := Lib.hid (row_keep hrb.out hb8)
        clear hrb hb8'
        go_wp2_with fail
        refine (sameInts_any (own_ints ho8.out) (own_ints hrb8.out)).mono ?_
        rintro e w9 ⟨rfl, hb9⟩
        have hB9 := hB8.trans (hb9.mono hB8.size)
        go_wp2_with fail
        refine (lsWorks_any w9).mono ?_
        rintro e w10 ⟨rfl, hb10⟩
        go_wp2_with fail
        go_ret
        exact ⟨rfl, hB9.trans (hb10.mono hB9.size)⟩
end Go.Proofs.Ytffjijgmjbhhoaa.listsSealsW
