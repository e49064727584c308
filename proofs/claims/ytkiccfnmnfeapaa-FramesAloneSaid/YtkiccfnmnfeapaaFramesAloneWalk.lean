/-
  The walk of the law FramesAlone: it returns true and writes nothing that was there.
-/
import Derived.Test.YtkiccfnmnfeapaaFWorks
namespace Go.Proofs.Ytkiccfnmnfeapaa.framesAloneW
open Go.RowKit
open Crc
theorem frame_ok (t : List UInt8) (ht : t.length ≤ 8192) (w : World) :
    Calls Try.prog 10 #[.string ⟨t.toArray⟩] w fun e w' => e = .returned (.tuple #[.string ⟨(frameOf t).toArray⟩, .int .i64 0]) ∧ Below w.heap.size w w' :=
  (frame_any ⟨t.toArray⟩ w (by show t.toArray.size ≤ _; rw [List.size_toArray]; unfold maxLen; omega)).mono fun e w' ⟨h1, h2⟩ => ⟨by
    rw [h1, tx_of]; unfold frameR; rw [if_neg (by omega)], h2⟩
theorem next_there {s : ByteArray} {j q : Nat} {p : List UInt8} (h : nextOf (bytesOf s) (j : Int) = some (p, q)) : (s.extract j q).toList = frameOf p := by
  obtain ⟨h1, x, y, hl, hj, rfl⟩ := next_iff.1 h
  obtain rfl : j = x.length := by omega
  rw [ext_list, hl, List.drop_left, show x.length + (frameOf p).length - x.length = (frameOf p).length by omega, List.take_left]
theorem flat_step {ps : List (List UInt8)} {k : Nat} (h : k < ps.length) : flat (ps.take (k + 1)) = flat (ps.take k) ++ frameOf (ps.getD k []) := by
  rw [List.take_succ_eq_append_getElem h, flat_snoc]
  simp [List.getD, h]
theorem flat_take_le (ps : List (List UInt8)) (k : Nat) : (flat (ps.take k)).length ≤ (flat ps).length := by
  rw [flat_split ps k, List.length_append]; omega
theorem small_at {ps : List (List UInt8)} (h : Small ps) (k : Nat) : (ps.getD k []).length ≤ 8192 := by
  by_cases hk : k < ps.length
  · simp only [List.getD, List.getElem?_eq_getElem hk, Option.getD_some]; exact h _ (List.getElem_mem hk)
  · simp [List.getD, List.getElem?_eq_none (show ps.length ≤ k by omega)]
set_option maxRecDepth 100000 in
set_option maxHeartbeats 2000000 in
theorem walk (s : ByteArray) (a : Int) (w : World) (_hs : s.size ≤ maxLen) (_w1 : (Lit.int .i64 a).wf = true) :
    Calls Try.prog 9 #[.string s, .int .i64 a] w fun e w' => e = .returned (.bool true) ∧ Below w.heap.size w w' := by
  by_cases h1 : 20000 < s.size
  · have t1 : decide (20000 < (s.size : Int)) = true := decide_eq_true (by omega)
    go_enter Try.func9, Try.ntmps9
    go_wp2_with fail
    go_ret
    exact ⟨rfl, Below.refl _ _⟩
  have t1 : decide (20000 < (s.size : Int)) = false := decide_eq_false (by omega)
  have G1 := Lib.hid (fun X => next_any s a X (by omega))
  have GW := Lib.hid (fun X => whole_any s X (by omega))
  rcases hn : nextOf (bytesOf s) a with _ | ⟨p, q⟩
  · have HN := Lib.hid hn
    clear hn
    go_enter Try.func9, Try.ntmps9
    go_wp2_with fail
    refine (G1.out _).mono ?_
    rintro e w1 ⟨hb1, he⟩
    rw [HN.out] at he
    simp only [nextR] at he
    subst he
    go_wp2_with fail
    refine (GW.out _).mono ?_
    rintro e w4 ⟨ps, m, v, rfl, hw, hrow, hb4⟩
    have h4 := hb1.trans (hb4.mono hb1.size)
    obtain ⟨A, cap, rfl, hcap, htx⟩ := Texts.own hrow
    have HT := Lib.hid htx
    clear htx hrow
    obtain ⟨hsm, rfl, y, hy, _⟩ := hw
    have HSM := Lib.hid hsm
    have hle : (flat ps).length ≤ s.size := by rw [← bytes_len, hy, List.length_append]; omega
    have hf : (flat ps == (s.extract 0 (flat ps).length).toList) = true := by rw [ext_list, hy]; simp
    have hmany := (show Thus (bytesOf s) ps from ⟨hsm, y, hy⟩).many
    have q0 : decide ((0 : Int) ≤ ((flat ps).length : Int)) = true := decide_eq_true (by omega)
    have q1 : decide ((flat ps).length ≤ s.size) = true := decide_eq_true (by omega)
    have HMX := Lib.hid (flat_take_le ps)
    clear hy hsm
    go_wp2_with fail
    go_loopw [12, 13] (fun t i wr => ∃ k : Nat, k ≤ ps.length ∧ i = .int .i64 k ∧ t = .string ⟨(flat (ps.take k)).toArray⟩ ∧ Below w4.heap.size w4 wr) (fun _ i _ => ps.length - (intOf i).toNat)
    case atStart => exact ⟨0, Nat.zero_le _, rfl, rfl, Below.refl _ _⟩
    case round =>
      obtain ⟨k, hk, rfl, rfl, hbel⟩ := hrel
      by_cases hlt : k < ps.length
      · obtain ⟨b, off, rfl, hblt, hc⟩ := HT.out (by omega)
        have hck := (hbel.cell (p := ⟨b, off + k, none⟩) hblt).trans (hc k hlt)
        have hx := HMX.out k
        have HST := Lib.hid (flat_step hlt)
        have hx2 := HMX.out (k + 1)
        have hpl := small_at HSM.out k
        rw [HST.out, List.length_append] at hx2
        unfold textV at hck
        clear hc
        generalize ps.getD k [] = t at *
        generalize flat (ps.take k) = T at *
        generalize (flat ps).length = L at *
        go_wp2_with fail
        refine (frame_ok t hpl _).mono ?_
        rintro e w5 ⟨rfl, hb5⟩
        have hb6 := hbel.trans (hb5.mono hbel.size)
        go_wp2_with fail
        go_roundw
        case rel => exact ⟨k + 1, by omega, by go_num, by rw [HST.out]; simp [ByteArray.mk_append_mk], hb6⟩
        case measure => simp [intOf]; omega
      · have ht : ps.take k = ps := List.take_of_length_le (by omega)
        rw [ht]
        clear ht
        generalize flat ps = T at *
        go_wp2_with fail
        refine (works_any _).mono ?_
        rintro e w5 ⟨rfl, hb5⟩
        have hb6 := hbel.trans (hb5.mono hbel.size)
        go_wp2_with fail
        go_ret
        exact ⟨rfl, h4.trans (hb6.mono h4.size)⟩
  · have hbd := next_bd hn
    rw [bytes_len] at hbd
    obtain ⟨b0, b1, b2, b3⟩ := hbd
    obtain ⟨j, rfl⟩ := Int.eq_ofNat_of_zero_le b1
    have HN := Lib.hid hn
    have u1 : (!((s.extract j q).toList == frameOf p)) = false := by rw [next_there hn]; simp
    have u2 : decide ((j : Int) < 0) = false := decide_eq_false (by omega)
    have u3 : decide (s.size < q) = false := decide_eq_false (by omega)
    have u4 : decide (q ≤ j) = false := decide_eq_false (by omega)
    have hjq : j ≤ q := by omega
    have G2 := Lib.hid (fun X => frame_ok p b0 X)
    clear hn b1 b2
    go_enter Try.func9, Try.ntmps9
    go_wp2_with fail
    refine (G1.out _).mono ?_
    rintro e w1 ⟨hb1, he⟩
    rw [HN.out] at he
    simp only [nextR] at he
    subst he
    go_wp2_with fail
    refine (G2.out _).mono ?_
    rintro e w3 ⟨rfl, hb3⟩
    have h13 := hb1.trans (hb3.mono hb1.size)
    clear hb1 hb3
    go_wp2_with fail
    refine (GW.out _).mono ?_
    rintro e w4 ⟨ps, m, v, rfl, hw, hrow, hb4⟩
    have h4 := h13.trans (hb4.mono h13.size)
    obtain ⟨A, cap, rfl, hcap, htx⟩ := Texts.own hrow
    have HT := Lib.hid htx
    clear htx hrow
    obtain ⟨hsm, rfl, y, hy, _⟩ := hw
    have HSM := Lib.hid hsm
    have hle : (flat ps).length ≤ s.size := by rw [← bytes_len, hy, List.length_append]; omega
    have hf : (flat ps == (s.extract 0 (flat ps).length).toList) = true := by rw [ext_list, hy]; simp
    have hmany := (show Thus (bytesOf s) ps from ⟨hsm, y, hy⟩).many
    have q0 : decide ((0 : Int) ≤ ((flat ps).length : Int)) = true := decide_eq_true (by omega)
    have q1 : decide ((flat ps).length ≤ s.size) = true := decide_eq_true (by omega)
    have HMX := Lib.hid (flat_take_le ps)
    clear hy hsm
    go_wp2_with fail
    go_loopw [12, 13] (fun t i wr => ∃ k : Nat, k ≤ ps.length ∧ i = .int .i64 k ∧ t = .string ⟨(flat (ps.take k)).toArray⟩ ∧ Below w4.heap.size w4 wr) (fun _ i _ => ps.length - (intOf i).toNat)
    case atStart => exact ⟨0, Nat.zero_le _, rfl, rfl, Below.refl _ _⟩
    case round =>
      obtain ⟨k, hk, rfl, rfl, hbel⟩ := hrel
      by_cases hlt : k < ps.length
      · obtain ⟨b, off, rfl, hblt, hc⟩ := HT.out (by omega)
        have hck := (hbel.cell (p := ⟨b, off + k, none⟩) hblt).trans (hc k hlt)
        have hx := HMX.out k
        have HST := Lib.hid (flat_step hlt)
        have hx2 := HMX.out (k + 1)
        have hpl := small_at HSM.out k
        rw [HST.out, List.length_append] at hx2
        unfold textV at hck
        clear hc
        generalize ps.getD k [] = t at *
        generalize flat (ps.take k) = T at *
        generalize (flat ps).length = L at *
        go_wp2_with fail
        refine (frame_ok t hpl _).mono ?_
        rintro e w5 ⟨rfl, hb5⟩
        have hb6 := hbel.trans (hb5.mono hbel.size)
        go_wp2_with fail
        go_roundw
        case rel => exact ⟨k + 1, by omega, by go_num, by rw [HST.out]; simp [ByteArray.mk_append_mk], hb6⟩
        case measure => simp [intOf]; omega
      · have ht : ps.take k = ps := List.take_of_length_le (by omega)
        rw [ht]
        clear ht
        generalize flat ps = T at *
        go_wp2_with fail
        refine (works_any _).mono ?_
        rintro e w5 ⟨rfl, hb5⟩
        have hb6 := hbel.trans (hb5.mono hbel.size)
        go_wp2_with fail
        go_ret
        exact ⟨rfl, h4.trans (hb6.mono h4.size)⟩
end Go.Proofs.Ytkiccfnmnfeapaa.framesAloneW
