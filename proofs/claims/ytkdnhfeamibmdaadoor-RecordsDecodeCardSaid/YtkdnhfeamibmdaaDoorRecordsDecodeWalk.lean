/-
  The walk of the law RecordsDecode: it returns true and writes nothing that was there.
-/
import Derived.Test.YtkdnhfeamibmdaaDoorRStore
import Derived.Test.YtkdnhfeamibmdaaDoorRcSame
import Derived.Test.YtkdnhfeamibmdaaDoorRcWorks
namespace Go.Proofs.YtkdnhfeamibmdaaDoor.recordsDecodeW
open Go.RowKit Go.Sort
set_option maxRecDepth 100000 in
set_option maxHeartbeats 1000000 in
theorem walk_off (s : ByteArray) (w : World) (h : 20000 < s.size) : Calls Tryd.prog 4 #[.string s] w fun e w' => e = .returned (.bool true) ∧ Below w.heap.size w w' := by
  have t : (20000 : Int) < (s.size : Int) := by omega
  have t' : decide (20000 < (s.size : Int)) = true := decide_eq_true t
  go_enter Tryd.func4, Tryd.ntmps4
  go_wp2_with fail
  go_ret
  exact ⟨rfl, Below.refl _ _⟩
set_option maxRecDepth 100000 in
set_option maxHeartbeats 16000000 in
theorem walk (s : ByteArray) (w : World) (hA : AskR w) (_ : s.size ≤ maxLen) : Calls Tryd.prog 4 #[.string s] w fun e w' => e = .returned (.bool true) ∧ Below w.heap.size w w' := by
  by_cases hbig : 20000 < s.size
  · exact walk_off s w hbig
  have t : ¬ (20000 : Int) < (s.size : Int) := by omega
  have t' : decide (20000 < (s.size : Int)) = false := decide_eq_false t
  have hs : s.size ≤ 1000000 := by omega
  have hsz : s.size ≤ 9223372036854775807 := by omega
  have HAK := Lib.hid (fun X (hX : Below w.heap.size w X) => hA.keep hX)
  have HD := Lib.hid (fun X (hX : Below w.heap.size w X) => recDecode_res hs (HAK.out X hX))
  have HD2 := Lib.hid (fun X => rrDec_res hs X)
  have HWK := Lib.hid (fun X (hX : Below w.heap.size w X) => recWorks_any (HAK.out X hX))
  have hlen := resR_len (bytesOf s)
  unfold ResPost at HD HD2
  clear hA hbig hs
  generalize resR (bytesOf s) = R at *
  obtain ⟨⟨ki, st, ep, vi, fr, le, es, fd⟩, er⟩ := R
  dsimp only [Rec.v] at *
  obtain ⟨hl1, hl2⟩ := hlen
  go_enter Tryd.func4, Tryd.ntmps4
  go_wp2_with fail
  refine (HD.out w (Below.refl _ _)).mono ?_
  rintro e w1 ⟨hb, A, A', c, c', rfl, hE, hF⟩
  have hB1 : Below w.heap.size w w1 := hb
  have HE1 := Lib.hid hE
  have HF1 := Lib.hid hF
  clear hb hE hF
  obtain ⟨w2, HX2⟩ : ∃ W : World, Hid (W = w1.alloc (.cells #[.int .i64 ki, .int .i64 st, .int .i64 ep, .int .i64 vi, .int .i64 fr, .int .i64 le, .slice A es.length c, .slice A' fd.length c'] 25)) := ⟨_, Lib.hid rfl⟩
  have h_r2 : w2.heap[w1.heap.size]? = some (.cells #[.int .i64 ki, .int .i64 st, .int .i64 ep, .int .i64 vi, .int .i64 fr, .int .i64 le, .slice A es.length c, .slice A' fd.length c'] 25 (0, 0)) := by rw [HX2.out]; exact heap_alloc_new _ _
  have hb12 : Below w1.heap.size w1 w2 := by rw [HX2.out]; exact (Below.refl _ _).alloc (Nat.le_refl _) _
  have hB2 := keepB hB1 hb12
  have HE2 := Lib.hid (HE1.out.below hb12)
  have HF2 := Lib.hid (HF1.out.below hb12)
  have HLE : Hid (∀ j, (Value.slice A es.length c).ownBlock = some j → j < w1.heap.size) := Lib.hid fun j hj => (World.ownsRow.lt HE1.out j hj).2
  have HLF : Hid (∀ j, (Value.slice A' fd.length c').ownBlock = some j → j < w1.heap.size) := Lib.hid fun j hj => (World.ownsRow.lt HF1.out j hj).2
  have HNE : Hid (∀ j, (Value.slice A es.length c).ownBlock = some j → (Value.slice A' fd.length c').ownBlock ≠ some j) := Lib.hid (rows_ne HE1.out HF1.out (by decide))
  clear HE1 HF1
  go_wp2_with (rw [← HX2.out])
  refine (HD2.out w2).mono ?_
  rintro e w3 ⟨hb, D, D', d, d', rfl, hE, hF⟩
  have hB3 := keepB hB2 hb
  have h_r3 := keepH hb h_r2
  have HE3 := Lib.hid (HE2.out.below hb)
  have HF3 := Lib.hid (HF2.out.below hb)
  have HWE3 := Lib.hid hE
  have HWF3 := Lib.hid hF
  clear hb hE hF h_r2 HE2 HF2 HX2 HD2
  obtain ⟨w4, HX4⟩ : ∃ W : World, Hid (W = w3.alloc (.cells #[.int .i64 ki, .int .i64 st, .int .i64 ep, .int .i64 vi, .int .i64 fr, .int .i64 le, .slice D es.length d, .slice D' fd.length d'] 25)) := ⟨_, Lib.hid rfl⟩
  have h_w4 : w4.heap[w3.heap.size]? = some (.cells #[.int .i64 ki, .int .i64 st, .int .i64 ep, .int .i64 vi, .int .i64 fr, .int .i64 le, .slice D es.length d, .slice D' fd.length d'] 25 (0, 0)) := by rw [HX4.out]; exact heap_alloc_new _ _
  have hb34 : Below w3.heap.size w3 w4 := by rw [HX4.out]; exact (Below.refl _ _).alloc (Nat.le_refl _) _
  have hB4 := keepB hB3 hb34
  have h_r4 := keepH hb34 h_r3
  have HE4 := Lib.hid (HE3.out.below hb34)
  have HF4 := Lib.hid (HF3.out.below hb34)
  have HWE4 := Lib.hid (HWE3.out.below hb34)
  have HWF4 := Lib.hid (HWF3.out.below hb34)
  have hz13 : w1.heap.size < w3.heap.size := heap_lt h_r3
  have hz12 : w1.heap.size < w2.heap.size + 1 := by have := hb12.size; omega
  have hz12' : w1.heap.size ≤ w2.heap.size := hb12.size
  clear h_r3 HE3 HF3 HWE3 HWF3 hb34 hb12
  have p0 := cell_at (i := 0) h_r4 rfl
  have p1 := cell_at (i := 1) h_r4 rfl
  have p2 := cell_at (i := 2) h_r4 rfl
  have p3 := cell_at (i := 3) h_r4 rfl
  have p4 := cell_at (i := 4) h_r4 rfl
  have p5 := cell_at (i := 5) h_r4 rfl
  have p6 := cell_at (i := 6) h_r4 rfl
  have p7 := cell_at (i := 7) h_r4 rfl
  have q0 := cell_at (i := 0) h_w4 rfl
  have q1 := cell_at (i := 1) h_w4 rfl
  have q2 := cell_at (i := 2) h_w4 rfl
  have q3 := cell_at (i := 3) h_w4 rfl
  have q4 := cell_at (i := 4) h_w4 rfl
  have q5 := cell_at (i := 5) h_w4 rfl
  have q6 := cell_at (i := 6) h_w4 rfl
  have q7 := cell_at (i := 7) h_w4 rfl
  go_wp2_with (rw [← HX4.out])
  refine (same_any ki st ep vi fr le HE4.out.es HF4.out.fd HWE4.out.es HWF4.out.fd (Nat.le_refl _) (Nat.le_refl _) (Nat.le_refl _) (Nat.le_refl _)).mono ?_
  rintro e w5 ⟨rfl, hb⟩
  have hB5 := keepB hB4 hb
  have h_r5 := Lib.hid (keepH hb h_r4)
  have h_w5 := Lib.hid (keepH hb h_w4)
  have HE5 : Hid (RowT w5 w.heap.size 30 6 A es.length c) := Lib.hid ⟨_, HE4.out.below hb⟩
  have HF5 : Hid (RowT w5 w.heap.size 32 2 A' fd.length c') := Lib.hid ⟨_, HF4.out.below hb⟩
  have HWE5 := Lib.hid (HWE4.out.below hb)
  have HWF5 := Lib.hid (HWF4.out.below hb)
  clear hb h_r4 h_w4 HE4 HF4 HWE4 HWF4 HX4 p0 p1 p2 p3 p4 p5 p6 p7 q0 q1 q2 q3 q4 q5 q6 q7
  have d6 := cell_at (i := 6) h_r5.out rfl
  go_wp2_with fail
  clear d6
  go_loopw [7] (fun iv wr => ∃ k : Nat, k ≤ es.length ∧ iv = .int .i64 k ∧ Hid (wr.heap[w1.heap.size]? = some (.cells #[.int .i64 ki, .int .i64 st, .int .i64 ep, .int .i64 vi, .int .i64 fr, .int .i64 le, .slice A es.length c, .slice A' fd.length c'] 25 (0, 0))) ∧ Hid (wr.heap[w3.heap.size]? = some (.cells #[.int .i64 ki, .int .i64 st, .int .i64 ep, .int .i64 vi, .int .i64 fr, .int .i64 le, .slice D es.length d, .slice D' fd.length d'] 25 (0, 0))) ∧ Hid (RowT wr w.heap.size 30 6 A es.length c) ∧ Hid (RowT wr w.heap.size 32 2 A' fd.length c') ∧ Hid (OwnE wr w2.heap.size (.slice D es.length d) es) ∧ Hid (OwnF wr w2.heap.size (.slice D' fd.length d') fd) ∧ Hid (Below w.heap.size w wr)) (fun iv _ => es.length - (intOf iv).toNat)
  case atStart => exact ⟨0, Nat.zero_le _, rfl, h_r5, h_w5, HE5, HF5, HWE5, HWF5, Lib.hid hB5⟩
  case round =>
    clear h_r5 h_w5 HE5 HF5 HWE5 HWF5 hB5
    obtain ⟨k, hk, rfl, h_r, h_w, hE, hF, hWE, hWF, hB⟩ := hrel
    have d6 := cell_at (i := 6) h_r.out rfl
    by_cases hlt : k < es.length
    · obtain ⟨g, rfl, hg1, hg2, hth⟩ := hE.out.at_ hlt
      have hii : (k : Int) < (es.length : Int) := by omega
      have hgl : g < w1.heap.size := HLE.out g rfl
      have HST := Lib.hid (run_storeVar_mid (P := Tryd.prog) wr g (k * 6) 30 #[.int .i64 (-9), .int .i64 0, .int .i64 0, .int .i64 0, .int .i64 0, .int .i64 0] hth (by kernel_rfl) (by simp [Value.oneCell']))
      obtain ⟨w6, HX6⟩ : ∃ W : World, Hid (W = wr.setCells g (k * 6) [.int .i64 (-9), .int .i64 0, .int .i64 0, .int .i64 0, .int .i64 0, .int .i64 0]) := ⟨_, Lib.hid rfl⟩
      have hft : Foot (fun j => j = g) wr w6 := by rw [HX6.out]; exact setCells_foot _ _ _ _
      have h_r6 := Lib.hid (hft.kept h_r.out (by omega))
      have h_w6 := Lib.hid (hft.kept h_w.out (by omega))
      have hE6 : Hid (RowT w6 w.heap.size 30 6 (some ⟨g, 0, none⟩) es.length c) := Lib.hid (by rw [HX6.out]; exact RowT.stores _ _ _ hE.out)
      have hF6 : Hid (RowT w6 w.heap.size 32 2 A' fd.length c') := Lib.hid (by
        obtain ⟨xs, hx⟩ := hF.out
        exact ⟨xs, owns_foot hx hft fun j hj e => by have := HNE.out g rfl; rw [hj, e] at this; exact this rfl⟩)
      have hWE6 : Hid (OwnE w6 w2.heap.size (.slice D es.length d) es) := Lib.hid (owns_foot hWE.out hft fun j hj e => by have := (World.ownsRow.lt hWE.out j hj).1; omega)
      have hWF6 : Hid (OwnF w6 w2.heap.size (.slice D' fd.length d') fd) := Lib.hid (owns_foot hWF.out hft fun j hj e => by have := (World.ownsRow.lt hWF.out j hj).1; omega)
      have hB6 : Hid (Below w.heap.size w w6) := Lib.hid (hB.out.trans (hft.below (B := w.heap.size) fun j hj => ⟨by have := hB.out.size; omega, by omega⟩))
      have hST : (storeVar 30 ⟨g, k * 6, none⟩ (.agg #[.int .i64 (-9), .int .i64 0, .int .i64 0, .int .i64 0, .int .i64 0, .int .i64 0])).run Tryd.prog wr = .ok () w6 := by rw [HX6.out]; exact HST.out
      replace hST := Lib.hid hST
      clear hft HST HX6 hth h_r h_w hE hF hWE hWF hB HD HWK HAK
      go_wp2_with (refine wpList_store_known rfl 30 _ _ rfl ⟨g, k * 6, none⟩ (.agg #[.int .i64 (-9), .int .i64 0, .int .i64 0, .int .i64 0, .int .i64 0, .int .i64 0]) (by simp [Act.eval]) rfl hST.out ?_)
      go_roundw
      case rel => exact ⟨k + 1, by omega, by go_num, h_r6, h_w6, hE6, hF6, hWE6, hWF6, hB6⟩
      case measure => simp [intOf]; omega
    · have hii : ¬ (k : Int) < (es.length : Int) := by omega
      have d7 := cell_at (i := 7) h_r.out rfl
      go_wp2_with fail
      clear d6 d7
      go_loopw [8] (fun iv wx => ∃ k : Nat, k ≤ fd.length ∧ iv = .int .i64 k ∧ Hid (wx.heap[w1.heap.size]? = some (.cells #[.int .i64 ki, .int .i64 st, .int .i64 ep, .int .i64 vi, .int .i64 fr, .int .i64 le, .slice A es.length c, .slice A' fd.length c'] 25 (0, 0))) ∧ Hid (wx.heap[w3.heap.size]? = some (.cells #[.int .i64 ki, .int .i64 st, .int .i64 ep, .int .i64 vi, .int .i64 fr, .int .i64 le, .slice D es.length d, .slice D' fd.length d'] 25 (0, 0))) ∧ Hid (RowT wx w.heap.size 32 2 A' fd.length c') ∧ Hid (OwnE wx w2.heap.size (.slice D es.length d) es) ∧ Hid (OwnF wx w2.heap.size (.slice D' fd.length d') fd) ∧ Hid (Below w.heap.size w wx)) (fun iv _ => fd.length - (intOf iv).toNat)
      case atStart => exact ⟨0, Nat.zero_le _, rfl, h_r, h_w, hF, hWE, hWF, hB⟩
      case round =>
        clear h_r h_w hE hF hWE hWF hB hk hlt hii
        obtain ⟨k, hk, rfl, h_r, h_w, hF, hWE, hWF, hB⟩ := hrel
        have d7 := cell_at (i := 7) h_r.out rfl
        by_cases hlt : k < fd.length
        · obtain ⟨g, rfl, hg1, hg2, hth⟩ := hF.out.at_ hlt
          have hii : (k : Int) < (fd.length : Int) := by omega
          have hgl : g < w1.heap.size := HLF.out g rfl
          have HST := Lib.hid (run_storeVar_mid (P := Tryd.prog) wr g (k * 2) 32 #[.int .i64 0, .int .i64 (-9)] hth (by kernel_rfl) (by simp [Value.oneCell']))
          obtain ⟨w6, HX6⟩ : ∃ W : World, Hid (W = wr.setCells g (k * 2) [.int .i64 0, .int .i64 (-9)]) := ⟨_, Lib.hid rfl⟩
          have hft : Foot (fun j => j = g) wr w6 := by rw [HX6.out]; exact setCells_foot _ _ _ _
          have h_r6 := Lib.hid (hft.kept h_r.out (by omega))
          have h_w6 := Lib.hid (hft.kept h_w.out (by omega))
          have hF6 : Hid (RowT w6 w.heap.size 32 2 (some ⟨g, 0, none⟩) fd.length c') := Lib.hid (by rw [HX6.out]; exact RowT.stores _ _ _ hF.out)
          have hWE6 : Hid (OwnE w6 w2.heap.size (.slice D es.length d) es) := Lib.hid (owns_foot hWE.out hft fun j hj e => by have := (World.ownsRow.lt hWE.out j hj).1; omega)
          have hWF6 : Hid (OwnF w6 w2.heap.size (.slice D' fd.length d') fd) := Lib.hid (owns_foot hWF.out hft fun j hj e => by have := (World.ownsRow.lt hWF.out j hj).1; omega)
          have hB6 : Hid (Below w.heap.size w w6) := Lib.hid (hB.out.trans (hft.below (B := w.heap.size) fun j hj => ⟨by have := hB.out.size; omega, by omega⟩))
          have hST : (storeVar 32 ⟨g, k * 2, none⟩ (.agg #[.int .i64 0, .int .i64 (-9)])).run Tryd.prog wr = .ok () w6 := by rw [HX6.out]; exact HST.out
          replace hST := Lib.hid hST
          clear hft HST HX6 hth h_r h_w hF hWE hWF hB HD HWK HAK
          go_wp2_with (refine wpList_store_known rfl 32 _ _ rfl ⟨g, k * 2, none⟩ (.agg #[.int .i64 0, .int .i64 (-9)]) (by simp [Act.eval]) rfl hST.out ?_)
          go_roundw
          case rel => exact ⟨k + 1, by omega, by go_num, h_r6, h_w6, hF6, hWE6, hWF6, hB6⟩
          case measure => simp [intOf]; omega
        · have hii : ¬ (k : Int) < (fd.length : Int) := by omega
          clear hF
          go_wp2_with fail
          refine (HD.out _ hB.out).mono ?_
          rintro e w7 ⟨hb, E, E', e0, e0', rfl, hE, hF⟩
          have hB7 := keepB hB.out hb
          have h_w7 := keepH hb h_w.out
          have HWE7 := Lib.hid (hWE.out.below hb)
          have HWF7 := Lib.hid (hWF.out.below hb)
          have HGE7 := Lib.hid hE
          have HGF7 := Lib.hid hF
          obtain ⟨w8, HX8⟩ : ∃ W : World, Hid (W = w7.alloc (.cells #[.int .i64 ki, .int .i64 st, .int .i64 ep, .int .i64 vi, .int .i64 fr, .int .i64 le, .slice E es.length e0, .slice E' fd.length e0'] 25)) := ⟨_, Lib.hid rfl⟩
          have h_g8 : w8.heap[w7.heap.size]? = some (.cells #[.int .i64 ki, .int .i64 st, .int .i64 ep, .int .i64 vi, .int .i64 fr, .int .i64 le, .slice E es.length e0, .slice E' fd.length e0'] 25 (0, 0)) := by rw [HX8.out]; exact heap_alloc_new _ _
          have hb78 : Below w7.heap.size w7 w8 := by rw [HX8.out]; exact (Below.refl _ _).alloc (Nat.le_refl _) _
          have hB8 := keepB hB7 hb78
          have h_w8 := keepH hb78 h_w7
          have HWE8 := Lib.hid (HWE7.out.below hb78)
          have HWF8 := Lib.hid (HWF7.out.below hb78)
          have HGE8 := Lib.hid (HGE7.out.below hb78)
          have HGF8 := Lib.hid (HGF7.out.below hb78)
          clear hb hE hF h_w h_r hWE hWF HWE7 HWF7 HGE7 HGF7 h_w7 d7 hb78
          have p0 := cell_at (i := 0) h_g8 rfl
          have p1 := cell_at (i := 1) h_g8 rfl
          have p2 := cell_at (i := 2) h_g8 rfl
          have p3 := cell_at (i := 3) h_g8 rfl
          have p4 := cell_at (i := 4) h_g8 rfl
          have p5 := cell_at (i := 5) h_g8 rfl
          have p6 := cell_at (i := 6) h_g8 rfl
          have p7 := cell_at (i := 7) h_g8 rfl
          have q0 := cell_at (i := 0) h_w8 rfl
          have q1 := cell_at (i := 1) h_w8 rfl
          have q2 := cell_at (i := 2) h_w8 rfl
          have q3 := cell_at (i := 3) h_w8 rfl
          have q4 := cell_at (i := 4) h_w8 rfl
          have q5 := cell_at (i := 5) h_w8 rfl
          have q6 := cell_at (i := 6) h_w8 rfl
          have q7 := cell_at (i := 7) h_w8 rfl
          go_wp2_with (rw [← HX8.out])
          refine (same_any ki st ep vi fr le HGE8.out.es HGF8.out.fd HWE8.out.es HWF8.out.fd (Nat.le_refl _) (Nat.le_refl _) (Nat.le_refl _) (Nat.le_refl _)).mono ?_
          rintro e w9 ⟨rfl, hb⟩
          have hB9 := keepB hB8 hb
          go_wp2_with fail
          refine (HWK.out w9 hB9).mono ?_
          rintro e w10 ⟨rfl, hb⟩
          go_wp2_with fail
          go_ret
          exact ⟨rfl, keepB hB9 hb⟩
end Go.Proofs.YtkdnhfeamibmdaaDoor.recordsDecodeW
