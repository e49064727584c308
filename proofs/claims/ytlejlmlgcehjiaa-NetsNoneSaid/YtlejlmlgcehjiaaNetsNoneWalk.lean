/-
  The walk of the law NetsNone.
-/
import Derived.Test.YtlejlmlgcehjiaaNNone
import Derived.Test.YtlejlmlgcehjiaaNOpens
import Derived.Test.YtlejlmlgcehjiaaRows
namespace Go.Proofs.Ytlejlmlgcehjiaa.netsNoneW
open Go.RowKit
/-- The act's kind in its box is set. -/
theorem set_kind {X : World} {b : Nat} {x : AV} (hb : X.heap[b]? = some (.cells (acells x).toArray 38 (0, 0))) (s : Int) :
    (X.setCell ⟨b, 0, none⟩ (.int .u8 s)).heap[b]? = some (.cells (acells { x with k := s }).toArray 38 (0, 0)) := by
  rw [setCell_eq_setRow X b 0 _ _ _ _ hb, setRow_heap X b _ _ _ _ hb]; rfl
theorem load_act {X : World} {b : Nat} {x : AV} (hb : X.heap[b]? = some (.cells (acells x).toArray 38 (0, 0))) : (loadVar 38 ⟨b, 0, none⟩).run Try.prog X = .ok (.agg (acells x).toArray) X :=
  run_loadVar_row X b _ _ (acells x).toArray _ _ hb Try.underlying38 rfl (by kernel_rfl)
/-- On the way: the act in its box; a net that is none. -/
def At (w : World) (x : AV) (v : Value) (X : World) : Prop := Below w.heap.size w X ∧ (∃ s : Int, X.heap[w.heap.size]? = some (.cells (acells { x with k := s }).toArray 38 (0, 0))) ∧ NoneAt X v ∧ ∀ b, v = .pointer (some ⟨b, 0, none⟩) → b ≠ w.heap.size
theorem At.below {w X Y : World} {x : AV} {v : Value} (h : At w x v X) (hb : Below X.heap.size X Y) : At w x v Y := by
  obtain ⟨h1, ⟨s, h2⟩, h3, h4⟩ := h
  exact ⟨h1.trans (hb.mono h1.size), ⟨s, (hb.block _ (lt_of_block h2)).trans h2⟩, h3.below hb, h4⟩
theorem At.set {w X : World} {x : AV} {v : Value} (h : At w x v X) (s : Int) : At w x v (X.setCell ⟨w.heap.size, 0, none⟩ (.int .u8 s)) ∧ (X.setCell ⟨w.heap.size, 0, none⟩ (.int .u8 s)).heap[w.heap.size]? = some (.cells (acells { x with k := s }).toArray 38 (0, 0)) := by
  obtain ⟨h1, ⟨s', h2⟩, h3, h4⟩ := h
  have h5 := set_kind h2 s
  refine ⟨⟨h1.setCell (p := ⟨w.heap.size, 0, none⟩) (Nat.le_refl _) _, ⟨s, h5⟩, ?_, h4⟩, h5⟩
  rcases h3 with rfl | ⟨b, rfl, h3⟩
  · exact .inl rfl
  · exact .inr ⟨b, rfl, (Below.heap_setCell X ⟨w.heap.size, 0, none⟩ _ b (fun e => h4 b rfl e)).trans h3⟩
set_option maxRecDepth 100000 in
set_option maxHeartbeats 2000000 in
theorem walk (x : AV) (w : World) (hE : Ents w x.v x.es) (_ : 0 ≤ x.k) : Calls Try.prog 4 #[.agg (acells x).toArray] w fun e w' => e = .returned (.bool true) ∧ Below w.heap.size w w' := by
  obtain ⟨W, hW⟩ : ∃ W, W = w.alloc (.cells (acells x).toArray 38) := ⟨_, rfl⟩
  have hb0 : Below w.heap.size w W := by rw [hW]; exact below_alloc1 w _
  have n0 : W.heap[w.heap.size]? = some (.cells (acells x).toArray 38 (0, 0)) := by rw [hW]; exact heap_alloc_new w _
  have hlt := lt_of_block n0
  have HG := Lib.hid (great_any (lit_act (X := W) (x := x) (hE.below hb0)))
  have HBL := Lib.hid (below_alloc1 W (.cells (acells x).toArray 38))
  have HA0 : Hid (At w x (.pointer none) W) := ⟨hb0, ⟨x.k, n0⟩, .inl rfl, fun b e => by cases e⟩
  have HLD := Lib.hid (load_act n0)
  have HW := Lib.hid hW.symm
  clear hW hb0 n0 hE
  go_enter Try.func4, Try.ntmps4
  go_wp2_with (first | rw [HW.out] | (refine wpList_load_run rfl 38 _ rfl ⟨w.heap.size, 0, none⟩ rfl HLD.out ?_) | (refine wpList_buildSlice_known rfl 22 1 _ rfl #[(0, .agg (acells x).toArray)] (by simp [Act.eval, Act.put]) (slice_act _ _) ?_))
  refine HG.out.mono ?_
  rintro e w1 ⟨b, rfl, hs, hb1⟩
  have HA1 : Hid (At w x (.pointer none) w1) := (HA0.out.below HBL.out).below hb1
  clear HG hs HLD HBL hb1 HA0 HW hlt
  cases b with
  | true =>
    go_wp2_with fail
    go_ret
    exact ⟨rfl, HA1.out.1⟩
  | false =>
    go_wp2_with fail
    go_loopg [3] 2 (fun kx s3 wr => ∃ i : Nat, i ≤ 2 ∧ s3 = .int .i64 (i : Int) ∧ 2 - i ≤ kx ∧ Hid (At w x (.pointer none) wr))
    case atStart => exact ⟨0, Nat.zero_le _, rfl, by omega, HA1⟩
    case round =>
      obtain ⟨i, hi, rfl, hik, HA⟩ := hrel
      clear HA1
      obtain rfl | hi2 : i = 2 ∨ i < 2 := by omega
      · go_wp2_with fail
        refine (works_any wr).mono ?_
        rintro e w5 ⟨rfl, hb5⟩
        go_wp2_with fail
        go_ret
        exact ⟨rfl, (HA.out.below hb5).1⟩
      · obtain rfl | rfl : i = 0 ∨ i = 1 := by omega
        · have HV := HA
          clear HA
          go_wp2_with fail
          go_loopg [5] 9 (fun kx s5 wx => ∃ k : Nat, k ≤ 9 ∧ s5 = .int .i64 (k : Int) ∧ 9 - k ≤ kx ∧ Hid (At w x (.pointer none) wx))
          case atStart => exact ⟨0, Nat.zero_le _, rfl, by omega, HV⟩
          case round =>
            obtain ⟨k, hk, rfl, hkx, HK⟩ := hrel
            clear HV
            by_cases hk9 : k < 9
            · obtain ⟨_, ⟨s, h2⟩, _, _⟩ := HK.out
              have c0 : wr.cell? ⟨w.heap.size, 0, none⟩ = some (.int .u8 s) := by rw [act_cells h2]; rfl
              have z0 := frozen_of_row wr w.heap.size 0 _ _ h2
              obtain ⟨a1, a2⟩ := HK.out.set (k : Int)
              have hwr : IntKind.u8.wrap (k : Int) = (k : Int) := by
                have : k = 0 ∨ k = 1 ∨ k = 2 ∨ k = 3 ∨ k = 4 ∨ k = 5 ∨ k = 6 ∨ k = 7 ∨ k = 8 := by omega
                rcases this with rfl | rfl | rfl | rfl | rfl | rfl | rfl | rfl | rfl <;> rfl
              obtain ⟨W4, hw4⟩ : ∃ W4, W4 = wr.setCell ⟨w.heap.size, 0, none⟩ (.int .u8 (k : Int)) := ⟨_, rfl⟩
              rw [← hw4] at a1 a2
              have HW4 := Lib.hid hw4.symm
              have HL := Lib.hid (load_act a2)
              have HD := Lib.hid (does_none { x with k := (k : Int) } (by show (0 : Int) ≤ (k : Int); omega) a1.2.2.1)
              have HA4 := Lib.hid a1
              clear h2 a1 a2 hw4
              go_wp2_with (first | rw [HW4.out] | (refine wpList_load_run rfl 38 _ rfl ⟨w.heap.size, 0, none⟩ rfl HL.out ?_))
              refine HD.out.mono ?_
              rintro e w5 ⟨rfl, hb5⟩
              obtain ⟨w6, st6, k6, b6, l6⟩ := box_mail w5 Net.hd0 none 0 0
              have HA6 : Hid (At w x (.pointer none) w6) := (HA4.out.below hb5.out).below b6
              have HS6 := Lib.hid st6
              have HL6 := Lib.hid (load_box k6)
              clear st6 k6 b6 l6 HA4 HK HL HD hb5 c0 z0
              go_wp2_with (first | (refine wpList_store_run rfl 36 _ _ rfl ⟨w5.heap.size, 0, none⟩ _ rfl rfl HS6.out ?_) | (refine wpList_load_want (by kernel_rfl) 36 _ rfl ⟨w5.heap.size, 0, none⟩ rfl HL6.out ?_))
              refine (sameMail_any (w := w6) Net.hd0 (EOwn.nil w6 0).ents (EOwn.nil w6 0).ents).mono ?_
              rintro e w7 ⟨rfl, hb7⟩
              have HA7 : Hid (At w x (.pointer none) w7) := HA6.out.below hb7
              clear hb7 HA6 HL6 HS6
              go_wp2_with fail
              go_roundg (9 - (k + 1))
              case measure => omega
              case rel => exact ⟨k + 1, by omega, by go_num, by omega, HA7⟩
            · obtain rfl : k = 9 := by omega
              have HLN := Lib.hid (len_none HK.out.2.2.1)
              have HAL := Lib.hid (all_none HK.out.2.2.1)
              go_wp2_with fail
              refine HLN.out.mono ?_
              rintro e w5 ⟨rfl, rfl⟩
              go_wp2_with fail
              refine HAL.out.mono ?_
              rintro e w6 ⟨A6, c6, rfl, hb6⟩
              have HA6 : Hid (At w x (.pointer none) wr) := HK
              obtain ⟨b1, b2, b3, b4⟩ := HK.out.below hb6.out
              have HA7 : Hid (At w x (.pointer none) w6) := ⟨b1, b2, .inl rfl, fun b e => by cases e⟩
              clear HA6 b1 b2 b3 b4 HK
              go_wp2_with fail
              go_roundg (2 - (0 + 1))
              case measure => omega
              case rel => exact ⟨0 + 1, by omega, by go_num, by omega, HA7⟩
        · have HV : Hid (At w x (.pointer (some ⟨wr.heap.size, 0, none⟩)) (wr.alloc (.cells #[.bool false, .slice none 0 0] 52))) := by
            obtain ⟨h1, h2, h3, h4⟩ := HA.out.below (below_alloc1 wr (.cells #[.bool false, .slice none 0 0] 52))
            refine ⟨h1, h2, .inr ⟨_, rfl, heap_alloc_new wr _⟩, fun b e => ?_⟩
            injection e with e; injection e with e; injection e with e
            obtain ⟨_, ⟨s, h5⟩, _⟩ := HA.out
            have := lt_of_block h5
            omega
          clear HA
          go_wp2_with fail
          generalize wr.heap.size = nb at *
          go_loopg [5] 9 (fun kx s5 wx => ∃ k : Nat, k ≤ 9 ∧ s5 = .int .i64 (k : Int) ∧ 9 - k ≤ kx ∧ Hid (At w x (.pointer (some ⟨nb, 0, none⟩)) wx))
          case atStart => exact ⟨0, Nat.zero_le _, rfl, by omega, HV⟩
          case round =>
            obtain ⟨k, hk, rfl, hkx, HK⟩ := hrel
            clear HV
            by_cases hk9 : k < 9
            · obtain ⟨_, ⟨s, h2⟩, _, _⟩ := HK.out
              have c0 : wr.cell? ⟨w.heap.size, 0, none⟩ = some (.int .u8 s) := by rw [act_cells h2]; rfl
              have z0 := frozen_of_row wr w.heap.size 0 _ _ h2
              obtain ⟨a1, a2⟩ := HK.out.set (k : Int)
              have hwr : IntKind.u8.wrap (k : Int) = (k : Int) := by
                have : k = 0 ∨ k = 1 ∨ k = 2 ∨ k = 3 ∨ k = 4 ∨ k = 5 ∨ k = 6 ∨ k = 7 ∨ k = 8 := by omega
                rcases this with rfl | rfl | rfl | rfl | rfl | rfl | rfl | rfl | rfl <;> rfl
              obtain ⟨W4, hw4⟩ : ∃ W4, W4 = wr.setCell ⟨w.heap.size, 0, none⟩ (.int .u8 (k : Int)) := ⟨_, rfl⟩
              rw [← hw4] at a1 a2
              have HW4 := Lib.hid hw4.symm
              have HL := Lib.hid (load_act a2)
              have HD := Lib.hid (does_none { x with k := (k : Int) } (by show (0 : Int) ≤ (k : Int); omega) a1.2.2.1)
              have HA4 := Lib.hid a1
              clear h2 a1 a2 hw4
              go_wp2_with (first | rw [HW4.out] | (refine wpList_load_run rfl 38 _ rfl ⟨w.heap.size, 0, none⟩ rfl HL.out ?_))
              refine HD.out.mono ?_
              rintro e w5 ⟨rfl, hb5⟩
              obtain ⟨w6, st6, k6, b6, l6⟩ := box_mail w5 Net.hd0 none 0 0
              have HA6 : Hid (At w x (.pointer (some ⟨nb, 0, none⟩)) w6) := (HA4.out.below hb5.out).below b6
              have HS6 := Lib.hid st6
              have HL6 := Lib.hid (load_box k6)
              clear st6 k6 b6 l6 HA4 HK HL HD hb5 c0 z0
              go_wp2_with (first | (refine wpList_store_run rfl 36 _ _ rfl ⟨w5.heap.size, 0, none⟩ _ rfl rfl HS6.out ?_) | (refine wpList_load_want (by kernel_rfl) 36 _ rfl ⟨w5.heap.size, 0, none⟩ rfl HL6.out ?_))
              refine (sameMail_any (w := w6) Net.hd0 (EOwn.nil w6 0).ents (EOwn.nil w6 0).ents).mono ?_
              rintro e w7 ⟨rfl, hb7⟩
              have HA7 : Hid (At w x (.pointer (some ⟨nb, 0, none⟩)) w7) := HA6.out.below hb7
              clear hb7 HA6 HL6 HS6
              go_wp2_with fail
              go_roundg (9 - (k + 1))
              case measure => omega
              case rel => exact ⟨k + 1, by omega, by go_num, by omega, HA7⟩
            · obtain rfl : k = 9 := by omega
              have HLN := Lib.hid (len_none HK.out.2.2.1)
              have HAL := Lib.hid (all_none HK.out.2.2.1)
              go_wp2_with fail
              refine HLN.out.mono ?_
              rintro e w5 ⟨rfl, rfl⟩
              go_wp2_with fail
              refine HAL.out.mono ?_
              rintro e w6 ⟨A6, c6, rfl, hb6⟩
              have HA6 : Hid (At w x (.pointer (some ⟨nb, 0, none⟩)) wr) := HK
              obtain ⟨b1, b2, b3, b4⟩ := HK.out.below hb6.out
              have HA7 : Hid (At w x (.pointer none) w6) := ⟨b1, b2, .inl rfl, fun b e => by cases e⟩
              clear HA6 b1 b2 b3 b4 HK
              go_wp2_with fail
              go_roundg (2 - (1 + 1))
              case measure => omega
              case rel => exact ⟨1 + 1, by omega, by go_num, by omega, HA7⟩
end Go.Proofs.Ytlejlmlgcehjiaa.netsNoneW
