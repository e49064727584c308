/-
  The walk of the law NetsFull.
-/
import Derived.Test.YtlejlmlgcehjiaaNFull
import Derived.Test.YtlejlmlgcehjiaaNOpens
import Derived.Test.YtlejlmlgcehjiaaRows
namespace Go.Proofs.Ytlejlmlgcehjiaa.netsFullW
open Go.RowKit
/-- The messages sent so far: each with its number as its stamp. -/
def sent (hd : Net.Hd) (i : Nat) : List Net.Ml := (List.range i).map fun (j : Nat) => ⟨{ hd with sp := (j : Int) }, []⟩
theorem sent_len (hd : Net.Hd) (i : Nat) : (sent hd i).length = i := by simp [sent]
theorem sent_next (hd : Net.Hd) {i : Nat} (hi : i < 512) : Net.send (sent hd i) ⟨{ hd with sp := (i : Int) }, []⟩ = (sent hd (i + 1), true) := by
  unfold Net.send
  rw [sent_len, if_neg (by omega)]
  simp [sent, List.range_succ]
theorem sent_at (hd : Net.Hd) {k i : Nat} (hk : k < i) : (sent hd i).getD k Net.ml0 = ⟨{ hd with sp := (k : Int) }, []⟩ := by
  rw [List.getD, List.getElem?_eq_getElem (by rw [sent_len]; exact hk)]
  simp [sent]
theorem full_send (hd : Net.Hd) (m : Net.Ml) : Net.send (sent hd 512) m = (sent hd 512, false) := by
  unfold Net.send
  rw [sent_len, if_pos (Nat.le_refl _)]
theorem full_copy (hd : Net.Hd) (i : Int) : Net.copy (sent hd 512) i = (sent hd 512, false) := by
  unfold Net.copy
  split
  · exact full_send hd _
  · rfl
theorem full_take (hd : Net.Hd) {k : Nat} (hk : k < 512) : Net.take (sent hd 512) (k : Int) = ((sent hd 512).eraseIdx k, ⟨{ hd with sp := (k : Int) }, []⟩, true) := by
  unfold Net.take
  rw [if_pos ⟨by omega, by rw [sent_len]; omega⟩, Int.toNat_natCast, sent_at hd hk]
theorem less_len (hd : Net.Hd) {k : Nat} (hk : k < 512) : ((sent hd 512).eraseIdx k).length = 511 := by
  rw [List.length_eraseIdx_of_lt (by rw [sent_len]; exact hk), sent_len]
theorem less_look (hd : Net.Hd) {k : Nat} (hk : k < 511) : Net.look ((sent hd 512).eraseIdx k) (k : Int) = ((sent hd 512).eraseIdx k, ⟨{ hd with sp := ((k + 1 : Nat) : Int) }, []⟩, true) := by
  have he : ((sent hd 512).eraseIdx k).getD k Net.ml0 = ⟨{ hd with sp := ((k + 1 : Nat) : Int) }, []⟩ := by
    have h := sent_at hd (i := 512) (show k + 1 < 512 by omega)
    rw [List.getD] at h
    rw [List.getD, List.getElem?_eraseIdx, if_neg (by omega)]
    exact h
  have hi : Net.In ((sent hd 512).eraseIdx k) (k : Int) := ⟨by omega, by rw [less_len hd (by omega)]; omega⟩
  unfold Net.look
  rw [if_pos hi, Int.toNat_natCast, he]
theorem less_none (hd : Net.Hd) {k : Nat} (hk : k = 511) : Net.look ((sent hd 512).eraseIdx k) (k : Int) = ((sent hd 512).eraseIdx k, Net.ml0, false) := by
  have hn : ¬ Net.In ((sent hd 512).eraseIdx k) (k : Int) := fun h => by
    have h2 := h.2
    rw [less_len hd (by omega)] at h2
    omega
  exact if_neg hn
theorem less_send (hd : Net.Hd) {k : Nat} (hk : k < 512) (m : Net.Ml) : Net.send ((sent hd 512).eraseIdx k) m = ((sent hd 512).eraseIdx k ++ [m], true) := by
  unfold Net.send
  rw [less_len hd hk, if_neg (by omega)]
theorem again_send (hd : Net.Hd) {k : Nat} (hk : k < 512) (m m' : Net.Ml) : Net.send ((sent hd 512).eraseIdx k ++ [m]) m' = ((sent hd 512).eraseIdx k ++ [m], false) := by
  unfold Net.send
  rw [List.length_append, less_len hd hk, if_pos (by simp)]
set_option maxRecDepth 100000 in
set_option maxHeartbeats 2000000 in
theorem walk (hd : Net.Hd) (A : Option Addr) (c : Nat) (es : List Net.Ent) (at_ : Nat) (w : World) (hE : Ents w (.slice A es.length c) es) (hat : at_ < 65536) :
    Calls Try.prog 7 #[.agg (mcells hd (.slice A es.length c)).toArray, .int .u16 (at_ : Int)] w fun e w' => e = .returned (.bool true) ∧ Below w.heap.size w w' := by
  obtain ⟨W, hW⟩ : ∃ W, W = w.alloc (.cells (mcells hd (.slice A es.length c)).toArray 36) := ⟨_, rfl⟩
  have hb0 : Below w.heap.size w W := by rw [hW]; exact below_alloc1 w _
  have n0 : W.heap[w.heap.size]? = some (.cells (mcells hd (.slice A es.length c)).toArray 36 (0, 0)) := by rw [hW]; exact heap_alloc_new w _
  have hlt := lt_of_block n0
  have HG := Lib.hid (great_any (lit_act (X := W) (x := av0 hd A c es) (hE.below hb0)))
  have hbl := below_alloc1 W (.cells (acells (av0 hd A c es)).toArray 38)
  have HBL := Lib.hid hbl
  have HB0 := Lib.hid hb0
  have HN0 := Lib.hid n0
  have HLD := Lib.hid (load_box n0)
  have HW := Lib.hid hW.symm
  clear hW hb0 n0 hbl hE
  go_enter Try.func7, Try.ntmps7
  go_wp2_with (first | rw [HW.out] | (refine wpList_load_run rfl 36 _ rfl ⟨w.heap.size, 0, none⟩ rfl HLD.out ?_) | (refine wpList_build_known rfl 38 _ rfl #[(1, .agg (mcells hd (.slice A es.length c)).toArray)] (by simp [Act.eval, Act.put]) _ (built_act hd A c es) ?_) | (refine wpList_buildSlice_known rfl 22 1 _ rfl #[(0, .agg (acells (av0 hd A c es)).toArray)] (by simp [Act.eval, Act.put]) (slice_act _ _) ?_))
  refine HG.out.mono ?_
  rintro e w1 ⟨b, rfl, hs, hb1⟩
  clear HG hs HLD
  have HB1 : Hid (Below W.heap.size W w1) := HBL.out.trans (hb1.mono HBL.out.size)
  clear hb1 HBL
  cases b with
  | true =>
    go_wp2_with fail
    go_ret
    exact ⟨rfl, HB0.out.trans (HB1.out.mono HB0.out.size)⟩
  | false =>
    have n1 := (HB1.out.block w.heap.size hlt).trans HN0.out
    have c9 : w1.cell? ⟨w.heap.size, 9, none⟩ = some (.slice A es.length c) := by rw [mail_cells n1]; rfl
    have z9 := frozen_of_row w1 w.heap.size 9 _ _ n1
    obtain ⟨w2, hw2⟩ : ∃ w2, w2 = w1.setCell ⟨w.heap.size, 9, none⟩ (.slice none 0 0) := ⟨_, rfl⟩
    have n2 : w2.heap[w.heap.size]? = some (.cells (mcells hd (.slice none 0 0)).toArray 36 (0, 0)) := by rw [hw2]; exact set_ents n1 _
    have b2 : Below w.heap.size w w2 := (HB0.out.trans (HB1.out.mono HB0.out.size)).trans (by rw [hw2]; exact (Below.refl w.heap.size w1).setCell (p := ⟨w.heap.size, 9, none⟩) (Nat.le_refl _) _)
    have HN2 := Lib.hid n2
    have HB2 := Lib.hid b2
    have HW2 := Lib.hid hw2.symm
    clear n1 n2 b2 hw2 HB0 HB1 HN0 HW
    go_wp2_with (rw [HW2.out])
    refine (on_new w2).mono ?_
    rintro e w3 ⟨n, S, rfl, H, HBN, HSN⟩
    have H0 : Hid (On w w3 S n (sent hd 0) w3) := H.out.lower HB2.out
    have hl2 := lt_of_block HN2.out
    have N3 : Hid (w.heap.size < w3.heap.size ∧ ¬ S w.heap.size ∧ ∃ s : Int, w3.heap[w.heap.size]? = some (.cells (mcells { hd with sp := s } (.slice none 0 0)).toArray 36 (0, 0))) := ⟨Nat.lt_of_lt_of_le hl2 HBN.out.size, fun e => by have := (HSN.out _ e).1; omega, hd.sp, (HBN.out.block _ hl2).trans HN2.out⟩
    clear H HBN HSN HW2 HN2 hl2 c9 z9
    go_wp2_with fail
    go_loopg [6] 512 (fun kx s6 wr => ∃ (i : Nat) (wB : World) (SB : Nat → Prop), i ≤ 512 ∧ s6 = .int .i64 (i : Int) ∧ 512 - i ≤ kx ∧ Hid (On w wB SB n (sent hd i) wr) ∧ Hid (w.heap.size < wB.heap.size ∧ ¬ SB w.heap.size ∧ ∃ s : Int, wB.heap[w.heap.size]? = some (.cells (mcells { hd with sp := s } (.slice none 0 0)).toArray 36 (0, 0))))
    case atStart => exact ⟨0, w3, S, Nat.zero_le _, rfl, by omega, H0, N3⟩
    case round =>
      obtain ⟨i, wB, SB, hil, rfl, hik, HO, HNB⟩ := hrel
      clear H0 N3
      obtain ⟨q1, q2, s, q3⟩ := HNB.out
      have nr := (HO.out.off q1 q2).trans q3
      by_cases hi : i < 512
      · have c8 : wr.cell? ⟨w.heap.size, 8, none⟩ = some (.int .i64 s) := by rw [mail_cells nr]; rfl
        have z8 := frozen_of_row wr w.heap.size 8 _ _ nr
        obtain ⟨w4, hw4⟩ : ∃ w4, w4 = wr.setCell ⟨w.heap.size, 8, none⟩ (.int .i64 (i : Int)) := ⟨_, rfl⟩
        have n4 : w4.heap[w.heap.size]? = some (.cells (mcells { hd with sp := (i : Int) } (.slice none 0 0)).toArray 36 (0, 0)) := by rw [hw4]; exact set_stamp nr (i : Int)
        obtain ⟨S4, o1, o2, o3, o4, _⟩ := HO.out.wrote (Nat.le_refl _) q1 q2 (w' := w4) (by rw [hw4]; exact Foot.set (fun k => k = w.heap.size) wr ⟨w.heap.size, 8, none⟩ _ rfl)
        have HSD := Lib.hid (on_send { hd with sp := (i : Int) } (Lib.hid o1) (EOwn.nil w4 0).ents (Nat.zero_le _) (sent_next hd hi))
        have HL4 := Lib.hid (load_box n4)
        have HW4 := Lib.hid hw4.symm
        have HN4 : Hid (w.heap.size < w4.heap.size ∧ ¬ S4 w.heap.size ∧ ∃ s : Int, w4.heap[w.heap.size]? = some (.cells (mcells { hd with sp := s } (.slice none 0 0)).toArray 36 (0, 0))) := ⟨o3, o2, _, n4⟩
        clear nr q1 q2 q3 n4 o1 o2 o3 o4 hw4 HO HNB
        go_wp2_with (first | rw [HW4.out] | (refine wpList_load_run rfl 36 _ rfl ⟨w.heap.size, 0, none⟩ rfl HL4.out ?_))
        refine HSD.out.mono ?_
        rintro e w5 ⟨rfl, H5⟩
        go_wp2_with fail
        go_roundg (512 - (i + 1))
        case measure => omega
        case rel => exact ⟨i + 1, w4, S4, by omega, by go_num, by omega, H5, HN4⟩
      · obtain rfl : i = 512 := by omega
        obtain ⟨k, hk⟩ : ∃ k, k = at_ % 512 := ⟨_, rfl⟩
        have hk5 : k < 512 := by omega
        have hmod : Int.tmod (at_ : Int) 512 = (k : Int) := by rw [Int.tmod_eq_emod_of_nonneg (by omega), hk]; omega
        have HK := Lib.hid hk
        have HNR := Lib.hid nr
        have HLR := Lib.hid (load_box nr)
        have NF1 := Lib.hid q1
        have NF2 := Lib.hid q2
        have HNQ := Lib.hid q3
        clear hk nr q1 q2 q3 HNB
        go_wp2_with (refine wpList_load_run rfl 36 _ rfl ⟨w.heap.size, 0, none⟩ rfl HLR.out ?_)
        refine (on_send { hd with sp := s } HO (EOwn.nil wr 0).ents (Nat.zero_le _) (full_send hd _)).mono ?_
        rintro e w5 ⟨rfl, H5⟩
        go_wp2_with fail
        refine (on_copy (k : Int) H5 (full_copy hd _)).mono ?_
        rintro e w6 ⟨rfl, H6⟩
        go_wp2_with fail
        refine (on_len' H6 (sent_len hd 512)).mono ?_
        rintro e w7 ⟨rfl, rfl⟩
        go_wp2_with fail
        obtain ⟨h7, e7, HT⟩ : ∃ h7 : Net.Hd, h7.sp = (k : Int) ∧ Hid (Net.take (sent hd 512) (k : Int) = ((sent hd 512).eraseIdx k, ⟨h7, []⟩, true)) := ⟨_, rfl, full_take hd hk5⟩
        have HS1 := Lib.hid (fun m => less_send hd hk5 m)
        have HS2 := Lib.hid (fun m m' => again_send hd hk5 m m')
        have HL5 := Lib.hid (less_len hd hk5)
        obtain ⟨h9, is, hks, HLK⟩ : ∃ (h9 : Net.Hd) (is : Bool), (is = true ∧ k < 511 ∧ h9.sp = (k : Int) + 1 ∨ is = false ∧ k = 511) ∧ Hid (Net.look ((sent hd 512).eraseIdx k) (k : Int) = ((sent hd 512).eraseIdx k, ⟨h9, []⟩, is)) := by
          by_cases h : k < 511
          · exact ⟨_, true, .inl ⟨rfl, h, by simp⟩, less_look hd h⟩
          · exact ⟨_, false, .inr ⟨rfl, by omega⟩, less_none hd (by omega)⟩
        generalize (sent hd 512).eraseIdx k = M8 at *
        refine (on_take (k : Int) H6 HT.out).mono ?_
        rintro e w7 ⟨A7, c7, S7, rfl, H7, HV7, HF7, HL7⟩
        obtain ⟨w8, st8, k8, b8, l8⟩ := box_mail w7 h7 A7 0 c7
        have H8 : Hid (On w w8 S7 n M8 w8) := H7.out.rebase HL7.out b8
        obtain ⟨NB8, e8⟩ := HV7.out.off NF1.out NF2.out
        have BB7 := e8.trans HNQ.out
        have BB8 := Lib.hid ((b8.block _ (lt_of_block BB7)).trans BB7)
        have l78 := lt_of_block BB8.out
        have NN8 : ¬ S7 w7.heap.size := fun e => by have := HL7.out _ e; omega
        have BX8 := Lib.hid k8
        have l8' := l8
        have ST8 := Lib.hid st8
        clear st8 k8 b8 e8 BB7 H7 HV7 HF7 HL7 HNR HLR HNQ NF1 NF2 l8 H5 H6 HO HT
        go_wp2_with (refine wpList_store_run rfl 36 _ _ rfl ⟨w7.heap.size, 0, none⟩ (.agg (mcells h7 (.slice A7 0 c7)).toArray) rfl rfl ST8.out ?_)
        refine (on_look (k : Int) H8 HLK.out).mono ?_
        rintro e w9 ⟨A9, c9, S9, rfl, H9, HV9, HF9, HL9⟩
        obtain ⟨w10, st10, k10, b10, l10⟩ := box_mail w9 h9 A9 0 c9
        have H10 : Hid (On w w10 S9 n M8 w10) := H9.out.rebase HL9.out b10
        obtain ⟨x1, x2⟩ := HV9.out.off l8' NN8
        obtain ⟨y1, y2⟩ := HV9.out.off l78 NB8
        have C8 := x2.trans BX8.out
        have C8' := (b10.block _ (lt_of_block C8)).trans C8
        have C2 := y2.trans BB8.out
        have C2' := (b10.block _ (lt_of_block C2)).trans C2
        have cx : w10.cell? ⟨w7.heap.size, 8, none⟩ = some (.int .i64 (k : Int)) := by rw [mail_cells C8']; show some (Value.int .i64 h7.sp) = _; rw [e7]
        have cy : w10.cell? ⟨w9.heap.size, 8, none⟩ = some (.int .i64 h9.sp) := by rw [mail_cells k10]; rfl
        have ST10 := Lib.hid st10
        have l29 := lt_of_block C2'
        have HC2 := Lib.hid C2'
        have HY1 := Lib.hid y1
        have HLR := Lib.hid (load_box C2')
        clear st10 k10 b10 l10 H9 HV9 HF9 HL9 x1 x2 y1 y2 C8 C2 C8' C2' NB8 NN8 BB8 BX8 ST8 HLK H8 l78 l8'
        have hw1 : IntKind.i64.wrap ((k : Int) + 1) = (k : Int) + 1 := IntWalk.i64_in _ (by omega)
        rcases hks with ⟨rfl, hk1, e9⟩ | ⟨rfl, hk1⟩
        · rw [e9] at cy
          have hk2 : (k : Int) < 511 := by omega
          as_aux_lemma =>
            go_wp2_with (first | (refine wpList_store_run rfl 36 _ _ rfl ⟨w9.heap.size, 0, none⟩ (.agg (mcells h9 (.slice A9 0 c9)).toArray) rfl rfl ST10.out ?_) | (refine wpList_load_run rfl 36 _ rfl ⟨w.heap.size, 0, none⟩ rfl HLR.out ?_))
            refine (on_send { hd with sp := s } H10 (EOwn.nil w10 0).ents (Nat.zero_le _) (HS1.out _)).mono ?_
            rintro e w11 ⟨rfl, H11⟩
            have HLR2 := Lib.hid (load_box ((H11.out.off l29 HY1.out).trans HC2.out))
            go_wp2_with (refine wpList_load_want (by kernel_rfl) 36 _ rfl ⟨w.heap.size, 0, none⟩ rfl HLR2.out ?_)
            refine (on_send { hd with sp := s } H11 (EOwn.nil w11 0).ents (Nat.zero_le _) (HS2.out _ _)).mono ?_
            rintro e w12 ⟨rfl, H12⟩
            go_wp2_with fail
            refine (on_len' H12 (L := 512) (by unfold Hid; rw [List.length_append, HL5.out]; rfl)).mono ?_
            rintro e w13 ⟨rfl, rfl⟩
            go_wp2_with fail
            refine (works_any w12).mono ?_
            rintro e w14 ⟨rfl, hb14⟩
            go_wp2_with fail
            go_ret
            exact ⟨rfl, H12.out.bel.trans (hb14.mono H12.out.bel.size)⟩
        · have hk2 : ¬ ((k : Int) < 511) := by omega
          have hk3 : (511 : Int) ≤ (k : Int) := by omega
          as_aux_lemma =>
            go_wp2_with (first | (refine wpList_store_run rfl 36 _ _ rfl ⟨w9.heap.size, 0, none⟩ (.agg (mcells h9 (.slice A9 0 c9)).toArray) rfl rfl ST10.out ?_) | (refine wpList_load_run rfl 36 _ rfl ⟨w.heap.size, 0, none⟩ rfl HLR.out ?_))
            refine (on_send { hd with sp := s } H10 (EOwn.nil w10 0).ents (Nat.zero_le _) (HS1.out _)).mono ?_
            rintro e w11 ⟨rfl, H11⟩
            have HLR2 := Lib.hid (load_box ((H11.out.off l29 HY1.out).trans HC2.out))
            go_wp2_with (refine wpList_load_want (by kernel_rfl) 36 _ rfl ⟨w.heap.size, 0, none⟩ rfl HLR2.out ?_)
            refine (on_send { hd with sp := s } H11 (EOwn.nil w11 0).ents (Nat.zero_le _) (HS2.out _ _)).mono ?_
            rintro e w12 ⟨rfl, H12⟩
            go_wp2_with fail
            refine (on_len' H12 (L := 512) (by unfold Hid; rw [List.length_append, HL5.out]; rfl)).mono ?_
            rintro e w13 ⟨rfl, rfl⟩
            go_wp2_with fail
            refine (works_any w12).mono ?_
            rintro e w14 ⟨rfl, hb14⟩
            go_wp2_with fail
            go_ret
            exact ⟨rfl, H12.out.bel.trans (hb14.mono H12.out.bel.size)⟩
end Go.Proofs.Ytlejlmlgcehjiaa.netsFullW
