/-
  Seals of package lists, and of the document: a row of the call's own.
-/
import Derived.Test.YtffjijgmjbhhoaaLsMath
import Derived.ArgAppend
import Derived.OwnWalk
import Derived.Maps.AppendAt
import Derived.RangeFuncBox
namespace Go.Proofs.Ytffjijgmjbhhoaa
open Go.RowKit
theorem Try.info_sint : (Try.prog.info? 3).map (fun i => (i.zero, i.size, i.bytes)) = some (some (.int .i64 0), 1, 8) := by kernel_rfl
/-- What Seals answers. -/
def SealsPost (es : List En) (w : World) (e : Ending) (w' : World) : Prop := ∃ A cv, e = .returned (.slice A (seals es).length cv) ∧ Hid (w'.ownsRow w.heap.size 3 1 (.slice A (seals es).length cv) (seals es).length ((seals es).map (Value.int .i64))) ∧ Hid (Below w.heap.size w w')
theorem sls_yes {es : List En} {k : Nat} (h : sealB es (k + 1) = true) : sls es (k + 1) = sls es k ++ [((k + 1 : Nat) : Int)] := by rw [sls, if_pos h]
theorem sls_no {es : List En} {k : Nat} (h : sealB es (k + 1) = false) : sls es (k + 1) = sls es k := by rw [sls, if_neg (by simp [h])]
theorem same_owns {w : World} {base : Nat} {e : TypeId} {size n : Nat} {v : Value} {xs : List Value} (h : w.ownsRow base e size v n xs) (d : Nat) : (w.drewN d).ownsRow base e size v n xs := h
set_option maxRecDepth 100000 in
set_option maxHeartbeats 2000000 in
theorem seals_any {v : Value} {B : Nat} {es : List En} {w : World} (ha : EsB B w v es) (hn : es.length ≤ 1000000) : Calls Try.prog 20 #[v] w (SealsPost es w) := by
  obtain ⟨i0, hi0, hz0, hz1, hz2⟩ := info_parts Try.info_sint
  have HCA := Lib.hid (fun k hk => EsB.cells ha (k := k) hk)
  obtain ⟨A, ca, rfl, h1, h2, -⟩ := ha.len
  have HB := Lib.hid (fun (X : World) (hX : Below w.heap.size w X) (p : Addr) (v : Value) (h : w.cell? p = some v) => (hX.cell (World.block_lt_of_cell? w _ h)).trans h)
  have hl : es.length ≤ maxLen := by omega
  unfold maxLen at hl
  clear ha h2
  go_enter Try.func20, Try.ntmps20
  go_wp2_with fail
  go_loopw [3, 8] (fun tv iv wx => ∃ (tA : Option Addr) (tc N k : Nat), k ≤ es.length ∧ tv = .slice tA N tc ∧ iv = .int .i64 (k : Int) ∧ Hid ((sls es k).length = N) ∧ wx.ownsRow w.heap.size 3 1 (.slice tA N tc) N ((sls es k).map (Value.int .i64)) ∧ Below w.heap.size w wx) (fun _ i _ => (es.length : Nat) + 1 - (intOf i).toNat)
  case atStart => exact ⟨none, 0, 0, 0, Nat.zero_le _, rfl, rfl, Lib.hid rfl, World.ownsRow_nil _ _ _ _, Below.refl _ _⟩
  case round =>
    obtain ⟨tA, tc, N, k, hk, rfl, rfl, hN, HO, hb⟩ := hrel
    obtain ⟨b, hbk, hbi⟩ : ∃ b : Nat, Hid (b = k + 1) ∧ (k : Int) + 1 = (b : Int) := ⟨k + 1, Lib.hid rfl, by omega⟩
    by_cases hlt : k < es.length
    · have hlen := sls_len es k
      have hmx : N + 1 ≤ maxLen := Nat.le_trans (show N + 1 ≤ 1000001 by have := hN.out; omega) (by decide)
      have hN6 : N ≤ 1000000 := by have := hN.out; omega
      have hbl : Hid (b ≤ es.length) := Lib.hid (by have := hbk.out; omega)
      obtain ⟨b1, o1, c1, hv1, _, x0, -⟩ := HCA.out k hlt
      injection hv1 with e1 _ e3
      subst e1 e3
      rw [← epA_at hlt] at x0
      have x0 := HB.out wr hb _ _ x0
      clear hlen
      by_cases hs : sealB es (k + 1) = true
      · have hs1 := Lib.hid (sls_yes hs)
        have hN1 : Hid ((sls es (k + 1)).length = N + 1) := Lib.hid (by rw [hs1.out, List.length_append, hN.out]; rfl)
        rw [show ((k + 1 : Nat) : Int) = (b : Int) by rw [hbk.out]] at hs1
        by_cases he : b = es.length
        · have t1 : ((b : Int) == (es.length : Int)) = true := by rw [he]; simp
          have t3 : (b == es.length) = true := by rw [he]; simp
          replace he := Lib.hid he
          have t4 : (b : Int) ≤ (es.length : Int) := by have := he.out; omega
          clear HCA hs x0
          go_wp2_with fail
          go_quiet (fail)
          have HO2 := same_owns HO nq
          have hb2 := below_drewN hb nq
          clear HO hb
          generalize wr.drewN nq = wq at *
          have hsz := hb2.size
          go_wp2_with (at_builtin; refine wpList_append_own _ rfl _ _ 30 rfl w.heap.size 3 i0 (.int .i64 0) 1 8 Try.underlying30 hi0 hz0 hz1 hz2 rfl (by decide) _ _ _ rfl (World.ownsRow.alloc HO2 _) ⟨wq.heap.size, 0, none⟩ 1 1 [.int .i64 (b : Int)] rfl rfl (cell_one_new _ _ _) (fun x hx => by simp at hx; subst hx; rfl) hmx (by omega) (by simp; omega) ?_; intro v' w3 hown' hgrow3 _)
          have hg3 : (wq.alloc (.cells #[.int .i64 (b : Int)] 3)).grownBy w3 (Value.slice tA N tc).ownBlock := hgrow3
          have hb3 : Below w.heap.size w w3 := (hb2.alloc hb2.size _).grown hg3 (Nat.le_trans hb2.size (by simp)) (fun j e => (World.ownsRow.lt HO2 j e).1)
          obtain ⟨g, cap, rfl⟩ := ownsRow_succ hown'
          go_roundw
          case rel => exact ⟨some ⟨g, 0, none⟩, cap, N + 1, k + 1, by omega, rfl, by go_num, hN1, by rw [hs1.out, List.map_append]; exact hown', hb3⟩
          case measure => simp [intOf]; omega
        · have hlt2 : b < es.length := by have := hbl.out; omega
          obtain ⟨b2, o2, c2, hv2, _, y0, -⟩ := HCA.out b hlt2
          injection hv2 with e2 _ e4
          injection e2 with e2
          injection e2 with e2 e5
          subst e2 e5
          clear e4
          rw [← epA_at hlt2] at y0
          have y0 := HB.out wr hb _ _ y0
          have hne : epA es b ≠ epA es k := by
            have h := hs
            simp only [sealB, decide_eq_true_eq, Nat.add_sub_cancel] at h
            rw [← hbk.out] at h
            exact h.resolve_left he
          have t1 : ((b : Int) == (es.length : Int)) = false := beq_eq_false_iff_ne.2 (by omega)
          have t3 : (b == es.length) = false := beq_eq_false_iff_ne.2 he
          have t4 : (b : Int) < (es.length : Int) := by omega
          have t5 : (k : Int) < (es.length : Int) := by omega
          clear HCA hs he
          generalize epA es b = p at *
          generalize epA es k = q at *
          have t2 : (p == q) = false := beq_eq_false_iff_ne.2 hne
          have t6 : (p != q) = true := by simp [hne]
          clear hne
          go_wp2_with fail
          go_quiet (fail)
          have HO2 := same_owns HO nq
          have hb2 := below_drewN hb nq
          clear HO hb
          generalize wr.drewN nq = wq at *
          have hsz := hb2.size
          go_wp2_with (at_builtin; refine wpList_append_own _ rfl _ _ 30 rfl w.heap.size 3 i0 (.int .i64 0) 1 8 Try.underlying30 hi0 hz0 hz1 hz2 rfl (by decide) _ _ _ rfl (World.ownsRow.alloc HO2 _) ⟨wq.heap.size, 0, none⟩ 1 1 [.int .i64 (b : Int)] rfl rfl (cell_one_new _ _ _) (fun x hx => by simp at hx; subst hx; rfl) hmx (by omega) (by simp; omega) ?_; intro v' w3 hown' hgrow3 _)
          have hg3 : (wq.alloc (.cells #[.int .i64 (b : Int)] 3)).grownBy w3 (Value.slice tA N tc).ownBlock := hgrow3
          have hb3 : Below w.heap.size w w3 := (hb2.alloc hb2.size _).grown hg3 (Nat.le_trans hb2.size (by simp)) (fun j e => (World.ownsRow.lt HO2 j e).1)
          obtain ⟨g, cap, rfl⟩ := ownsRow_succ hown'
          go_roundw
          case rel => exact ⟨some ⟨g, 0, none⟩, cap, N + 1, k + 1, by omega, rfl, by go_num, hN1, by rw [hs1.out, List.map_append]; exact hown', hb3⟩
          case measure => simp [intOf]; omega
      · have hs' : sealB es (k + 1) = false := by simpa using hs
        have hs1 := Lib.hid (sls_no hs')
        have hN1 : Hid ((sls es (k + 1)).length = N) := Lib.hid (by rw [hs1.out, hN.out])
        simp only [sealB, decide_eq_false_iff_not, Nat.add_sub_cancel, not_or, ne_eq, Decidable.not_not] at hs'
        rw [← hbk.out] at hs'
        obtain ⟨he, hee⟩ := hs'
        have hlt2 : b < es.length := by have := hbl.out; omega
        obtain ⟨b2, o2, c2, hv2, _, y0, -⟩ := HCA.out b hlt2
        injection hv2 with e2 _ e4
        injection e2 with e2
        injection e2 with e2 e5
        subst e2 e5
        clear e4
        rw [← epA_at hlt2] at y0
        have y0 := HB.out wr hb _ _ y0
        have t1 : ((b : Int) == (es.length : Int)) = false := beq_eq_false_iff_ne.2 (by omega)
        have t3 : (b == es.length) = false := beq_eq_false_iff_ne.2 he
        have t4 : (b : Int) < (es.length : Int) := by omega
        have t5 : (k : Int) < (es.length : Int) := by omega
        rw [hee] at y0
        clear HCA hs he hee
        generalize epA es k = q at *
        go_wp2_with fail
        go_quiet (fail)
        go_wp2_with fail
        go_roundw
        case rel => exact ⟨tA, tc, N, k + 1, by omega, rfl, by go_num, hN1, by rw [hs1.out]; exact same_owns HO _, below_drewN hb _⟩
        case measure => simp [intOf]; omega
    · obtain rfl : k = es.length := by omega
      have hN' : (seals es).length = N := hN.out
      have HO' : wr.ownsRow w.heap.size 3 1 (.slice tA N tc) N ((seals es).map (Value.int .i64)) := HO
      have HN := Lib.hid hN'
      have HO := Lib.hid HO'
      clear hN' HO'
      go_wp2_with fail
      go_ret
      refine ⟨tA, tc, ?_, ?_, Lib.hid hb⟩
      · rw [HN.out]; rfl
      · rw [HN.out]; exact HO
end Go.Proofs.Ytffjijgmjbhhoaa
